import Derived.Test.YtgiaabgcbpafgaaDLdr
import Derived.Test.YtgiaabgcbpafgaaDRaS
namespace Go.Proofs.Ytgiaabgcbpafgaa
open Go.RowKit
set_option linter.unusedSimpArgs false
def DrSns (w : World) (x : StV) (t id : Int) (e : Ending) (w' : World) : Prop := ∃ (ra : Option Addr) (rc : Nat), e = .returned (.tuple #[.agg #[.slice ra (dropP x t id).2.tables.length rc, .int .i64 (dropP x t id).2.next], .int .i64 (dropP x t id).1]) ∧ Rd w' (· < w'.heap.size) (dRowSS (dropP x t id).2.tables) (.slice ra (dropP x t id).2.tables.length rc) ∧ Below w.heap.size w w'
theorem DrSns.zero {w w' : World} {x : StV} {t id code : Int} (hP : dropP x t id = (code, stZ)) (hB : Below w.heap.size w w') : DrSns w x t id (.returned (.tuple #[.agg #[.slice none 0 0, .int .i64 0], .int .i64 code])) w' := by
  refine ⟨none, 0, by rw [hP]; rfl, by rw [hP]; exact ⟨none, 0, rfl, .inl rfl⟩, hB⟩
set_option maxRecDepth 100000 in
set_option maxHeartbeats 6400000 in
theorem dropRowS (x : StV) (t id : Int) (a : Option Addr) (c : Nat) (B : Nat → Prop) (w : World) (ho : (dRowSS x.tables).le maxLen) (hk : (dRowSS x.tables).le 1048576) (hS : Rd w B (dRowSS x.tables) (.slice a x.tables.length c)) :
    Calls Try.prog 16 #[.agg #[.slice a x.tables.length c, .int .i64 x.next], .int .i64 t, .int .i64 id] w (DrSns w x t id) := by
  have HS : Hid (∀ W, Below w.heap.size w W → Rd W B (Ls 1 cRowS x.tables) (.slice a x.tables.length c)) := fun W h => Rd.later hS h
  have PC : Hid (∀ W, Below w.heap.size w W → Calls Try.prog 20 #[.agg #[.slice a x.tables.length c, .int .i64 x.next]] W fun e w' => e = .returned (.bool (plainB x)) ∧ Below W.heap.size W w') := fun W h => plainS x a c B W ho (hS.later h)
  have OS : Hid (∀ W, Below w.heap.size w W → Calls Try.prog 23 #[.agg #[.slice a x.tables.length c, .int .i64 x.next]] W _) := fun W h => ownS x a c B W hk (hS.later h)
  have LD : Hid (∀ (i k : Nat) (hi : i < x.tables.length) (hkk : k < x.tables[i].length) W, Below w.heap.size w W → Calls Try.prog 37 #[.agg #[.slice a x.tables.length c, .int .i64 x.next], .int .i64 i, .int .i64 k] W _) := fun i k hi hkk W h => ldropS x i k hi hkk a c B W hk (hS.later h)
  have HO := Lib.hid (And.intro ho hk)
  have hlen : x.tables.length ≤ 1048576 := (Ls_le.1 hk).2.1
  have hb := LdB.first w (.slice a x.tables.length c) x.next
  have x0 := cell_at (o := 0) hb.bx rfl
  have x1 := cell_at (o := 1) hb.bx rfl
  have H0 := Lib.hid hb
  clear hS ho hk hb
  by_cases hp : plainB x = true
  case neg =>
    have hc : plainB x = false := by simpa using hp
    have HP : Hid (dropP x t id = (1, stZ)) := by show dropP x t id = _; unfold dropP; rw [if_neg hp]
    rw [hc] at PC
    clear hc hp
    go_enter Try.func16, Try.ntmps16
    go_wp2_with fail
    refine (PC.out _ H0.out.bel).mono ?_
    rintro e w1 ⟨rfl, hB⟩
    have H1 := Lib.hid (H0.out.later hB)
    clear hB x0 x1
    have r0 := cell_at (o := 0) H1.out.rv rfl
    have r1 := cell_at (o := 1) H1.out.rv rfl
    have g0 := frozen_at 0 H1.out.rv
    have g1 := frozen_at 1 H1.out.rv
    go_wp2_with fail
    exact bodyPost_ret (v := .tuple #[.agg #[.slice none 0 0, .int .i64 0], .int .i64 1]) (by simp [results, Try.results16, go_sem, *]) rfl (DrSns.zero HP.out ((H1.out.bel.setCell (by simp <;> omega) _).setCell (by simp <;> omega) _))
  rw [hp] at PC
  by_cases ht : 0 ≤ t ∧ t < x.tables.length
  case neg =>
    have hc : inR 0 t ((x.tables.length : Int) - 1) = false := by unfold inR; simp; omega
    have HP : Hid (dropP x t id = (10, stZ)) := by show dropP x t id = _; unfold dropP; rw [if_pos hp, if_neg ht]
    have IN := Lib.hid (fun W => inRS t 0 ((x.tables.length : Int) - 1) W)
    rw [hc] at IN
    clear hc hp ht
    go_enter Try.func16, Try.ntmps16
    go_wp2_with fail
    refine (PC.out _ H0.out.bel).mono ?_
    rintro e w1 ⟨rfl, hB⟩
    have H1 := Lib.hid (H0.out.later hB)
    clear hB x0 x1
    have x0 := cell_at (o := 0) H1.out.bx rfl
    go_wp2_with fail
    refine (IN.out _).mono ?_
    rintro e w2 ⟨rfl, rfl⟩
    clear x0
    have r0 := cell_at (o := 0) H1.out.rv rfl
    have r1 := cell_at (o := 1) H1.out.rv rfl
    have g0 := frozen_at 0 H1.out.rv
    have g1 := frozen_at 1 H1.out.rv
    go_wp2_with fail
    exact bodyPost_ret (v := .tuple #[.agg #[.slice none 0 0, .int .i64 0], .int .i64 10]) (by simp [results, Try.results16, go_sem, *]) rfl (DrSns.zero HP.out ((H1.out.bel.setCell (by simp <;> omega) _).setCell (by simp <;> omega) _))
  have hc : inR 0 t ((x.tables.length : Int) - 1) = true := by unfold inR; simp; omega
  have IN := Lib.hid (fun W => inRS t 0 ((x.tables.length : Int) - 1) W)
  rw [hc] at IN
  obtain ⟨i, rfl⟩ : ∃ i : Nat, t = (i : Int) := ⟨t.toNat, by omega⟩
  have hi : i < x.tables.length := by omega
  have HQ : Hid (dropP x i id = if rplI x.tables[i] id < 0 then (5, x) else (0, ⟨x.tables.set i (x.tables[i].eraseIdx (rplI x.tables[i] id).toNat), x.next⟩)) := by
    show dropP x i id = _
    unfold dropP
    rw [if_pos hp, if_pos ht, Int.toNat_natCast, getD_tab hi]
  have hi1 : (i : Int) < (x.tables.length : Int) := by omega
  have hi0 : (0 : Int) ≤ (i : Int) := by omega
  clear hc hp ht
  go_enter Try.func16, Try.ntmps16
  go_wp2_with fail
  refine (PC.out _ H0.out.bel).mono ?_
  rintro e w1 ⟨rfl, hB⟩
  have H1 := Lib.hid (H0.out.later hB)
  clear hB x0 x1
  have x0 := cell_at (o := 0) H1.out.bx rfl
  go_wp2_with fail
  refine (IN.out _).mono ?_
  rintro e w2 ⟨rfl, rfl⟩
  obtain ⟨b, off, rfl, -, hcc⟩ := (HS.out _ H1.out.bel).things i hi
  obtain ⟨u0, c0, r0⟩ := hcc 0 (by omega)
  replace r0 : Rd w2 B (dRowS x.tables[i]) u0 := r0
  obtain ⟨ra, rq, rfl⟩ := r0.lsSlice
  rw [Nat.mul_one] at c0
  replace c0 : w2.cell? ⟨b, off + i, none⟩ = _ := c0
  have KL : Hid ((dRowS x.tables[i]).le maxLen) := (Ls_le.1 HO.out.1).2.2 i hi 0 (by omega)
  have RP := Lib.hid (rplS x.tables[i] ra rq id B w2 (Ls_le.1 KL.out).2.1 r0)
  clear hcc r0
  rcases rpl_cases x.tables[i] id with ⟨hr, hno⟩ | ⟨k, hkl, hr, hke, hkn⟩
  · have HP : Hid (dropP x i id = (5, x)) := by show dropP x i id = _; rw [HQ.out, hr]; rfl
    rw [hr] at RP
    clear hr hno
    generalize x.tables[i] = l at *
    go_wp2_with fail
    refine RP.out.mono ?_
    rintro e w3 ⟨rfl, hB2⟩
    have H2 := Lib.hid (H1.out.later hB2)
    clear hB2 x0 c0
    have x0 := cell_at (o := 0) H2.out.bx rfl
    have x1 := cell_at (o := 1) H2.out.bx rfl
    go_wp2_with fail
    refine (OS.out _ H2.out.bel).mono ?_
    rintro e w4 ⟨qa, qc, rfl, hsq, hB3⟩
    have H3 := Lib.hid (H2.out.later hB3)
    have hs3 : w.heap.size + 1 < w3.heap.size := (Array.getElem?_eq_some_iff.1 H2.out.rv).1
    have HRD : Hid (Rd w4 (fun d => w3.heap.size ≤ d ∧ d < w4.heap.size) (dRowSS x.tables) (.slice qa x.tables.length qc) ∧ w.heap.size + 1 < w3.heap.size) := ⟨hsq.rd (by omega) (fun g e => (hsq.low e).1), hs3⟩
    have r0 := cell_at (o := 0) H3.out.rv rfl
    have r1 := cell_at (o := 1) H3.out.rv rfl
    have g0 := frozen_at 0 H3.out.rv
    have g1 := frozen_at 1 H3.out.rv
    clear hsq hB3 x0 x1 hs3
    go_wp2_with fail
    refine bodyPost_ret (v := .tuple #[.agg #[.slice qa x.tables.length qc, .int .i64 x.next], .int .i64 5]) (by simp [results, Try.results16, go_sem, *]) rfl ?_
    have hfr : Frm (· = w.heap.size + 1) w4 ((w4.setCell ⟨w.heap.size + 1, 0, none⟩ (.slice qa x.tables.length qc)).setCell ⟨w.heap.size + 1, 1, none⟩ (.int .i64 x.next)) := (frm_set _ _ _ _).trans (frm_set _ _ _ _)
    refine ⟨qa, qc, by rw [HP.out], ?_, (H3.out.bel.setCell (by simp <;> omega) _).setCell (by simp <;> omega) _⟩
    rw [HP.out]
    have hs := HRD.out.2
    exact (HRD.out.1.frm hfr (fun b hb e => by have h1 := hb.1; have e' : b = w.heap.size + 1 := e; omega)).mono (fun b hb => by simpa using hb.2)
  · have HP : Hid (dropP x i id = (0, ⟨x.tables.set i (x.tables[i].eraseIdx k), x.next⟩)) := by
      show dropP x i id = _
      rw [HQ.out, hr, if_neg (by omega), Int.toNat_natCast]
    rw [hr] at RP
    have L2 : Hid (∀ W, Below w.heap.size w W → Calls Try.prog 37 _ W _) := fun W h => LD.out i k hi hkl W h
    have hkn0 : ¬ ((k : Int) < 0) := by omega
    clear hr hke hkn
    generalize hle : x.tables[i].length = n at *
    clear hle
    go_wp2_with fail
    refine RP.out.mono ?_
    rintro e w3 ⟨rfl, hB2⟩
    have H2 := Lib.hid (H1.out.later hB2)
    clear hB2 x0 c0
    have x0 := cell_at (o := 0) H2.out.bx rfl
    have x1 := cell_at (o := 1) H2.out.bx rfl
    go_wp2_with fail
    refine (L2.out _ H2.out.bel).mono ?_
    rintro e w4 ⟨qa, qc, rfl, hrd, hB3⟩
    have H3 := Lib.hid (H2.out.later hB3)
    have hs3 : w.heap.size + 1 < w3.heap.size := (Array.getElem?_eq_some_iff.1 H2.out.rv).1
    have HRD := Lib.hid (And.intro hrd hs3)
    have r0 := cell_at (o := 0) H3.out.rv rfl
    have r1 := cell_at (o := 1) H3.out.rv rfl
    have g0 := frozen_at 0 H3.out.rv
    have g1 := frozen_at 1 H3.out.rv
    clear hrd hB3 x0 x1 hs3
    go_wp2_with fail
    refine bodyPost_ret (v := .tuple #[.agg #[.slice qa x.tables.length qc, .int .i64 x.next], .int .i64 0]) (by simp [results, Try.results16, go_sem, *]) rfl ?_
    have hfr : Frm (· = w.heap.size + 1) w4 ((w4.setCell ⟨w.heap.size + 1, 0, none⟩ (.slice qa x.tables.length qc)).setCell ⟨w.heap.size + 1, 1, none⟩ (.int .i64 x.next)) := (frm_set _ _ _ _).trans (frm_set _ _ _ _)
    refine ⟨qa, qc, by rw [HP.out]; simp, ?_, (H3.out.bel.setCell (by simp <;> omega) _).setCell (by simp <;> omega) _⟩
    rw [HP.out]
    have hs := HRD.out.2
    exact (HRD.out.1.frm hfr (fun b hb e => by have h1 := hb.1; have e' : b = w.heap.size + 1 := e; omega)).mono (fun b hb => by have := hb.2; simpa using this)
end Go.Proofs.Ytgiaabgcbpafgaa
