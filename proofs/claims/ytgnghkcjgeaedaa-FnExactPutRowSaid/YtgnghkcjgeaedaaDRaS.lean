import Derived.Test.YtgnghkcjgeaedaaDPl
import Derived.Test.YtgnghkcjgeaedaaDOwn
import Derived.Test.YtgnghkcjgeaedaaDRaI
namespace Go.Proofs.Ytgnghkcjgeaedaa
open Go.RowKit
set_option linter.unusedSimpArgs false
def inR (lo n hi : Int) : Bool := decide (lo ≤ n) && decide (n ≤ hi)
set_option maxHeartbeats 400000 in
theorem inRS (n lo hi : Int) (w : World) : Calls Try.prog 24 #[.int .i64 n, .int .i64 lo, .int .i64 hi] w fun e w' => e = .returned (.bool (inR lo n hi)) ∧ w' = w := by
  go_enter Try.func24, Try.ntmps24
  go_wp2
  · go_ret
    refine ⟨(congrArg (fun b => Ending.returned (Value.bool b)) (?_ : decide (n ≤ hi) = inR lo n hi) :), rfl⟩
    rw [Bool.eq_iff_iff]; simp [inR]; try omega
  · go_ret
    refine ⟨(congrArg (fun b => Ending.returned (Value.bool b)) (?_ : false = inR lo n hi) :), rfl⟩
    rw [Bool.eq_iff_iff]; simp [inR]; try omega
def RaSns (w : World) (x : StV) (t id : Int) (e : Ending) (w' : World) : Prop := ∃ (ra : Option Addr) (rc : Nat), e = .returned (.tuple #[.agg #[.int .i64 (rowAtP x t id).2.id, .slice ra (rowAtP x t id).2.cells.length rc], .int .i64 (rowAtP x t id).1]) ∧ Rd w' (· < w'.heap.size) (dAtomSS (rowAtP x t id).2.cells) (.slice ra (rowAtP x t id).2.cells.length rc) ∧ Below w.heap.size w w'
theorem RaSns.zero {w w' : World} {x : StV} {t id code : Int} (hP : rowAtP x t id = (code, rowZ)) (hB : Below w.heap.size w w') : RaSns w x t id (.returned (.tuple #[.agg #[.int .i64 0, .slice none 0 0], .int .i64 code])) w' := by
  refine ⟨none, 0, by rw [hP]; rfl, by rw [hP]; exact ⟨none, 0, rfl, .inl rfl⟩, hB⟩
set_option maxRecDepth 100000 in
set_option maxHeartbeats 6400000 in
theorem rowAtS (x : StV) (t id : Int) (a : Option Addr) (c : Nat) (B : Nat → Prop) (w : World) (ho : (dRowSS x.tables).le maxLen) (hk : (dRowSS x.tables).le 1048576) (hS : Rd w B (dRowSS x.tables) (.slice a x.tables.length c)) :
    Calls Try.prog 7 #[.agg #[.slice a x.tables.length c, .int .i64 x.next], .int .i64 t, .int .i64 id] w (RaSns w x t id) := by
  have HS : Hid (∀ W, Below w.heap.size w W → Rd W B (Ls 1 cRowS x.tables) (.slice a x.tables.length c)) := fun W h => Rd.later hS h
  have PC : Hid (∀ W, Below w.heap.size w W → Calls Try.prog 23 #[.agg #[.slice a x.tables.length c, .int .i64 x.next]] W fun e w' => e = .returned (.bool (plainB x)) ∧ Below W.heap.size W w') := fun W h => plainS x a c B W ho (hS.later h)
  have HO := Lib.hid (And.intro ho hk)
  have hlen : x.tables.length ≤ 1048576 := (Ls_le.1 hk).2.1
  have hb := RaB.first w x a c
  have x0 := cell_at (o := 0) hb.bx rfl
  have x1 := cell_at (o := 1) hb.bx rfl
  have H0 := Lib.hid hb
  clear hS ho hk hb
  by_cases hp : plainB x = true
  case neg =>
    have hc : plainB x = false := by simpa using hp
    have HP : Hid (rowAtP x t id = (1, rowZ)) := by show rowAtP x t id = _; unfold rowAtP; rw [if_neg hp]
    rw [hc] at PC
    clear hc hp
    go_enter Try.func7, Try.ntmps7
    go_wp2_with fail
    refine (PC.out _ H0.out.bel).mono ?_
    rintro e w1 ⟨rfl, hB⟩
    have H1 := Lib.hid (H0.out.later hB)
    clear hB x0 x1
    have r0 := cell_at (o := 0) H1.out.rv rfl
    have r1 := cell_at (o := 1) H1.out.rv rfl
    have g0 := frozen_at 0 H1.out.rv
    have g1 := frozen_at 1 H1.out.rv
    go_wp2_with fail
    exact bodyPost_ret (v := .tuple #[.agg #[.int .i64 0, .slice none 0 0], .int .i64 1]) (by simp [results, Try.results7, go_sem, *]) rfl (RaSns.zero HP.out ((H1.out.bel.setCell (by simp <;> omega) _).setCell (by simp <;> omega) _))
  rw [hp] at PC
  by_cases ht : 0 ≤ t ∧ t < x.tables.length
  case neg =>
    have hc : inR 0 t ((x.tables.length : Int) - 1) = false := by unfold inR; simp; omega
    have HP : Hid (rowAtP x t id = (10, rowZ)) := by show rowAtP x t id = _; unfold rowAtP; rw [if_pos hp, if_neg ht]
    have IN := Lib.hid (fun W => inRS t 0 ((x.tables.length : Int) - 1) W)
    rw [hc] at IN
    clear hc hp ht
    go_enter Try.func7, Try.ntmps7
    go_wp2_with fail
    refine (PC.out _ H0.out.bel).mono ?_
    rintro e w1 ⟨rfl, hB⟩
    have H1 := Lib.hid (H0.out.later hB)
    clear hB x0 x1
    have x0 := cell_at (o := 0) H1.out.bx rfl
    go_wp2_with fail
    refine (IN.out _).mono ?_
    rintro e w2 ⟨rfl, rfl⟩
    clear x0
    have r0 := cell_at (o := 0) H1.out.rv rfl
    have r1 := cell_at (o := 1) H1.out.rv rfl
    have g0 := frozen_at 0 H1.out.rv
    have g1 := frozen_at 1 H1.out.rv
    go_wp2_with fail
    exact bodyPost_ret (v := .tuple #[.agg #[.int .i64 0, .slice none 0 0], .int .i64 10]) (by simp [results, Try.results7, go_sem, *]) rfl (RaSns.zero HP.out ((H1.out.bel.setCell (by simp <;> omega) _).setCell (by simp <;> omega) _))
  have hc : inR 0 t ((x.tables.length : Int) - 1) = true := by unfold inR; simp; omega
  have IN := Lib.hid (fun W => inRS t 0 ((x.tables.length : Int) - 1) W)
  rw [hc] at IN
  obtain ⟨i, rfl⟩ : ∃ i : Nat, t = (i : Int) := ⟨t.toNat, by omega⟩
  have hi : i < x.tables.length := by omega
  have HQ : Hid (rowAtP x i id = if rplI x.tables[i] id < 0 then (5, rowZ) else (0, x.tables[i].getD (rplI x.tables[i] id).toNat rowZ)) := by
    show rowAtP x i id = _
    unfold rowAtP
    rw [if_pos hp, if_pos ht, Int.toNat_natCast, getD_tab hi]
  have hi1 : (i : Int) < (x.tables.length : Int) := by omega
  have hi0 : (0 : Int) ≤ (i : Int) := by omega
  clear hc hp ht
  go_enter Try.func7, Try.ntmps7
  go_wp2_with fail
  refine (PC.out _ H0.out.bel).mono ?_
  rintro e w1 ⟨rfl, hB⟩
  have H1 := Lib.hid (H0.out.later hB)
  clear hB x0 x1
  have x0 := cell_at (o := 0) H1.out.bx rfl
  go_wp2_with fail
  refine (IN.out _).mono ?_
  rintro e w2 ⟨rfl, rfl⟩
  obtain ⟨b, off, rfl, -, hcc⟩ := (HS.out _ H1.out.bel).things i hi
  obtain ⟨u0, c0, r0⟩ := hcc 0 (by omega)
  replace r0 : Rd w2 B (dRowS x.tables[i]) u0 := r0
  obtain ⟨ra, rq, rfl⟩ := r0.lsSlice
  rw [Nat.mul_one] at c0
  replace c0 : w2.cell? ⟨b, off + i, none⟩ = _ := c0
  have KL : Hid ((dRowS x.tables[i]).le maxLen ∧ (dRowS x.tables[i]).le 1048576) := ⟨(Ls_le.1 HO.out.1).2.2 i hi 0 (by omega), (Ls_le.1 HO.out.2).2.2 i hi 0 (by omega)⟩
  have RP := Lib.hid (rplS x.tables[i] ra rq id B w2 (Ls_le.1 KL.out.1).2.1 r0)
  have HBB : Hid (b < w2.heap.size) := World.block_lt_of_cell? w2 ⟨b, off + i, none⟩ c0
  have HR0 := Lib.hid r0
  have HC0 := Lib.hid c0
  clear hcc r0
  generalize x.tables[i] = l at *
  rcases rpl_cases l id with ⟨hr, hno⟩ | ⟨k, hkl, hr, hke, hkn⟩
  · have HP : Hid (rowAtP x i id = (5, rowZ)) := by show rowAtP x i id = _; rw [HQ.out, hr]; rfl
    rw [hr] at RP
    go_wp2_with fail
    refine RP.out.mono ?_
    rintro e w3 ⟨rfl, hB2⟩
    have H2 := Lib.hid (H1.out.later hB2)
    clear hB2 x0 c0 hr hno
    have r0 := cell_at (o := 0) H2.out.rv rfl
    have r1 := cell_at (o := 1) H2.out.rv rfl
    have g0 := frozen_at 0 H2.out.rv
    have g1 := frozen_at 1 H2.out.rv
    go_wp2_with fail
    exact bodyPost_ret (v := .tuple #[.agg #[.int .i64 0, .slice none 0 0], .int .i64 5]) (by simp [results, Try.results7, go_sem, *]) rfl (RaSns.zero HP.out ((H2.out.bel.setCell (by simp <;> omega) _).setCell (by simp <;> omega) _))
  · have HP : Hid (rowAtP x i id = (0, l[k])) := by
      show rowAtP x i id = _
      rw [HQ.out, hr, if_neg (by omega), Int.toNat_natCast, getD_tab hkl]
    rw [hr] at RP
    go_wp2_with fail
    refine RP.out.mono ?_
    rintro e w3 ⟨rfl, hB2⟩
    have H2 := Lib.hid (H1.out.later hB2)
    have hr2 := HR0.out.later hB2
    have hc3 := hB2.cell (p := ⟨b, off + i, none⟩) HBB.out
    rw [HC0.out] at hc3
    clear hB2 x0 c0
    have x0 := cell_at (o := 0) H2.out.bx rfl
    obtain ⟨rb, roff, rfl, -, hcc⟩ := Rd.things (d := dRow) (n := 2) hr2 k hkl
    obtain ⟨u0, e0, q0⟩ := hcc 0 (by omega)
    obtain rfl : u0 = .int .i64 l[k].id := q0
    obtain ⟨u1, e1, q1⟩ := hcc 1 (by omega)
    replace q1 : Rd w3 B (dAtomSS l[k].cells) u1 := q1
    obtain ⟨sa, sq, rfl⟩ := q1.lsSlice
    replace e0 : w3.cell? ⟨rb, roff + k * 2, none⟩ = _ := e0
    replace e1 : w3.cell? ⟨rb, roff + k * 2 + 1, none⟩ = _ := e1
    have CR := Lib.hid (ownRowS l[k] sa sq B w3 ((Ls_le.1 KL.out.2).2.2 k hkl 1 (by omega)) q1)
    have hki1 : (k : Int) < (l.length : Int) := by omega
    have hki0 : (0 : Int) ≤ (k : Int) := by omega
    have hkn0 : ¬ ((k : Int) < 0) := by omega
    clear hr hke hkn hr2 q1 hcc
    generalize l[k] = y at *
    go_wp2_with fail
    refine CR.out.mono ?_
    rintro e w4 ⟨qa, qc, rfl, hown3, hB3⟩
    have H3 := Lib.hid (H2.out.later hB3)
    have HO3 := Lib.hid hown3
    have HS3 : Hid (w.heap.size + 1 < w3.heap.size ∧ w.heap.size ≤ w3.heap.size) := ⟨(Array.getElem?_eq_some_iff.1 H2.out.rv).1, H2.out.bel.size⟩
    have r0 := cell_at (o := 0) H3.out.rv rfl
    have r1 := cell_at (o := 1) H3.out.rv rfl
    have g0 := frozen_at 0 H3.out.rv
    have g1 := frozen_at 1 H3.out.rv
    clear hown3 hB3 e0 e1 x0 hc3
    go_wp2_with fail
    refine bodyPost_ret (v := .tuple #[.agg #[.int .i64 y.id, .slice qa y.cells.length qc], .int .i64 0]) (by simp [results, Try.results7, go_sem, *]) rfl ?_
    have hfr : Frm (· = w.heap.size + 1) w4 ((w4.setCell ⟨w.heap.size + 1, 0, none⟩ (.int .i64 y.id)).setCell ⟨w.heap.size + 1, 1, none⟩ (.slice qa y.cells.length qc)) := (frm_set _ _ _ _).trans (frm_set _ _ _ _)
    refine ⟨qa, qc, by rw [HP.out], ?_, (H3.out.bel.setCell (by simp <;> omega) _).setCell (by simp <;> omega) _⟩
    rw [HP.out]
    have hs := HS3.out
    exact (HO3.out.frm hfr (fun b hb e => by have h1 := hb.1; have e' : b = w.heap.size + 1 := e; omega)).mono (fun b hb => by simpa using hb.2)
end Go.Proofs.Ytgnghkcjgeaedaa
