import Derived.Test.YtgnghkcjgeaedaaDPi
import Derived.Test.YtgnghkcjgeaedaaDShf
import Derived.Test.YtgnghkcjgeaedaaDCpy
namespace Go.Proofs.Ytgnghkcjgeaedaa
open Go.RowKit Go.Maps
set_option linter.unusedSimpArgs false
theorem zeroP (w : World) : (zeroValue 56).run Try.prog w = .ok (.pointer none) w := by
  have h : (Try.prog.info? 56).map (fun i => i.zero) = some (some (.pointer none)) := by kernel_rfl
  obtain ⟨i, hi, hz⟩ := Option.map_eq_some_iff.1 h
  simp [zeroValue, typeInfo, hi, hz]
/-- what a shelf tells of an Id -/
theorem look_shelf {w : World} {m n : Nat} {D : DataW Value} {l : List RowV} {rb roff : Nat} (hown : w.ownsMap Try.prog 3 ptrR m n D) (hs : ShM D l rb roff l.length) {id : Int} (hid : iOK id) : (Instr.lookup 58 (.map (some m)) (.int .i64 id) false).run Try.prog w = .ok (ptrOf l rb roff l.length id) w := by
  obtain ⟨v, ps, hrun, hv⟩ := hown.lookup (t := 58) intK Try.underlying58 (zeroP w) (zd := .held (.pointer none)) (zp := []) rfl (keyOf_int_mk Try.underlying3 hid)
  rw [hs id] at hv
  simp only [ptrR, Option.some.injEq, Prod.mk.injEq, DataW.held.injEq] at hv
  rw [hrun, hv.1]
def RaAns (w : World) (x : StV) (t id : Int) (e : Ending) (w' : World) : Prop := ∃ (ra : Option Addr) (rc : Nat), e = .returned (.tuple #[.agg #[.int .i64 (rowAtP x t id).2.id, .slice ra (rowAtP x t id).2.cells.length rc], .int .i64 (rowAtP x t id).1]) ∧ Own w' (dAtomSS (rowAtP x t id).2.cells) (fun c => w.heap.size ≤ c ∧ c < w'.heap.size) (.slice ra (rowAtP x t id).2.cells.length rc) ∧ Below w.heap.size w w'
theorem RaAns.zero {w w' : World} {x : StV} {t id code : Int} (hP : rowAtP x t id = (code, rowZ)) (hB : Below w.heap.size w w') : RaAns w x t id (.returned (.tuple #[.agg #[.int .i64 0, .slice none 0 0], .int .i64 code])) w' := by
  refine ⟨none, 0, by rw [hP]; rfl, by rw [hP]; exact ⟨none, 0, rfl, .inl rfl⟩, hB⟩
/-- boxes of a store and of a row -/
structure RaB (w W : World) (x : StV) (a : Option Addr) (c : Nat) : Prop where
  bx : W.heap[w.heap.size]? = some (.cells #[.slice a x.tables.length c, .int .i64 x.next] 33)
  rv : W.heap[w.heap.size + 1]? = some (.cells #[.int .i64 0, .slice none 0 0] 28)
  bel : Below w.heap.size w W
theorem RaB.first (w : World) (x : StV) (a : Option Addr) (c : Nat) : RaB w ((w.alloc (.cells #[.slice a x.tables.length c, .int .i64 x.next] 33)).alloc (.cells #[.int .i64 0, .slice none 0 0] 28)) x a c := by
  refine ⟨heap_keptD (heap_newD _ _) (below_allocD _ _), ?_, (below_allocD _ _).trans ((below_allocD _ _).mono (by simp))⟩
  have h := heap_newD (w.alloc (.cells #[.slice a x.tables.length c, .int .i64 x.next] 33)) (.cells #[.int .i64 0, .slice none 0 0] 28)
  rw [size_allocD] at h
  exact h
theorem RaB.later {w W W' : World} {x : StV} {a : Option Addr} {c : Nat} (h : RaB w W x a c) (hB : Below W.heap.size W W') : RaB w W' x a c := ⟨heap_keptD h.bx hB, heap_keptD h.rv hB, h.bel.trans (hB.mono h.bel.size)⟩
set_option maxRecDepth 100000 in
set_option maxHeartbeats 6400000 in
theorem rowAtI (x : StV) (t id : Int) (a : Option Addr) (c : Nat) (B : Nat → Prop) (w : World) (ho : (dRowSS x.tables).le maxLen) (hk : (dRowSS x.tables).le 1048576) (hid : iOK id) (hS : Rd w B (dRowSS x.tables) (.slice a x.tables.length c)) :
    Calls Try.prog 9 #[.agg #[.slice a x.tables.length c, .int .i64 x.next], .int .i64 t, .int .i64 id] w (RaAns w x t id) := by
  have HS : Hid (∀ W, Below w.heap.size w W → Rd W B (Ls 1 cRowS x.tables) (.slice a x.tables.length c)) := fun W h => Rd.later hS h
  have PC : Hid (∀ W, Below w.heap.size w W → Calls Try.prog 28 #[.agg #[.slice a x.tables.length c, .int .i64 x.next], .int .i64 t] W fun e w' => e = .returned (.int .i64 (rplC x t)) ∧ Below W.heap.size W w') := fun W h => placeCodeI x t a c B W ho (hS.later h)
  have HO := Lib.hid (And.intro ho (And.intro hk hid))
  have hb := RaB.first w x a c
  have x0 := cell_at (o := 0) hb.bx rfl
  have x1 := cell_at (o := 1) hb.bx rfl
  have H0 := Lib.hid hb
  clear hS ho hk hid hb
  by_cases hp : plainB x = true
  case neg =>
    have hc : rplC x t = 1 := by unfold rplC; rw [if_neg hp]
    have HP : Hid (rowAtP x t id = (1, rowZ)) := by show rowAtP x t id = _; unfold rowAtP; rw [if_neg hp]
    rw [hc] at PC
    clear hc hp
    go_enter Try.func9, Try.ntmps9
    go_wp2_with fail
    refine (PC.out _ H0.out.bel).mono ?_
    rintro e w1 ⟨rfl, hB⟩
    have H1 := Lib.hid (H0.out.later hB)
    have r0 := cell_at (o := 0) H1.out.rv rfl
    have r1 := cell_at (o := 1) H1.out.rv rfl
    have g0 := frozen_at 0 H1.out.rv
    have g1 := frozen_at 1 H1.out.rv
    clear hB x0 x1
    go_wp2_with fail
    exact bodyPost_ret (v := .tuple #[.agg #[.int .i64 0, .slice none 0 0], .int .i64 1]) (by simp [results, Try.results9, go_sem, *]) rfl (RaAns.zero HP.out ((H1.out.bel.setCell (by simp <;> omega) _).setCell (by simp <;> omega) _))
  by_cases ht : 0 ≤ t ∧ t < x.tables.length
  case neg =>
    have hc : rplC x t = 10 := by unfold rplC hasT; rw [if_pos hp, if_neg (by simpa using ht)]
    have HP : Hid (rowAtP x t id = (10, rowZ)) := by show rowAtP x t id = _; unfold rowAtP; rw [if_pos hp, if_neg ht]
    rw [hc] at PC
    clear hc hp ht
    go_enter Try.func9, Try.ntmps9
    go_wp2_with fail
    refine (PC.out _ H0.out.bel).mono ?_
    rintro e w1 ⟨rfl, hB⟩
    have H1 := Lib.hid (H0.out.later hB)
    have r0 := cell_at (o := 0) H1.out.rv rfl
    have r1 := cell_at (o := 1) H1.out.rv rfl
    have g0 := frozen_at 0 H1.out.rv
    have g1 := frozen_at 1 H1.out.rv
    clear hB x0 x1
    go_wp2_with fail
    exact bodyPost_ret (v := .tuple #[.agg #[.int .i64 0, .slice none 0 0], .int .i64 10]) (by simp [results, Try.results9, go_sem, *]) rfl (RaAns.zero HP.out ((H1.out.bel.setCell (by simp <;> omega) _).setCell (by simp <;> omega) _))
  have hc : rplC x t = 0 := by unfold rplC hasT; rw [if_pos hp, if_pos (by simpa using ht)]
  obtain ⟨i, rfl⟩ : ∃ i : Nat, t = (i : Int) := ⟨t.toNat, by omega⟩
  have hi : i < x.tables.length := by omega
  have HPL := Lib.hid (plain_of hp i hi)
  have HP : Hid (rowAtP x i id = if rplI x.tables[i] id < 0 then (5, rowZ) else (0, x.tables[i].getD (rplI x.tables[i] id).toNat rowZ)) := by
    show rowAtP x i id = _
    unfold rowAtP
    rw [if_pos hp, if_pos ht, Int.toNat_natCast, getD_tab hi]
  rw [hc] at PC
  have hi1 : (i : Int) < (x.tables.length : Int) := by omega
  have hi0 : (0 : Int) ≤ (i : Int) := by omega
  clear hc hp ht
  go_enter Try.func9, Try.ntmps9
  go_wp2_with fail
  refine (PC.out _ H0.out.bel).mono ?_
  rintro e w1 ⟨rfl, hB⟩
  have H1 := Lib.hid (H0.out.later hB)
  clear hB x0 x1
  have x0 := cell_at (o := 0) H1.out.bx rfl
  obtain ⟨b, off, rfl, -, hcc⟩ := (HS.out _ H1.out.bel).things i hi
  obtain ⟨u0, c0, r0⟩ := hcc 0 (by omega)
  replace r0 : Rd w1 B (dRowS x.tables[i]) u0 := r0
  obtain ⟨ra, rq, rfl⟩ := r0.lsSlice
  rw [Nat.mul_one] at c0
  replace c0 : w1.cell? ⟨b, off + i, none⟩ = _ := c0
  have KL : Hid ((dRowS x.tables[i]).le maxLen ∧ (dRowS x.tables[i]).le 1048576) := ⟨(Ls_le.1 HO.out.1).2.2 i hi 0 (by omega), (Ls_le.1 HO.out.2.1).2.2 i hi 0 (by omega)⟩
  obtain ⟨rb, roff, hra⟩ : ∃ rb roff, 0 < x.tables[i].length → ra = some ⟨rb, roff, none⟩ := by
    by_cases h0 : 0 < x.tables[i].length
    · obtain ⟨rb, roff, h, -⟩ := Rd.things (d := dRow) (n := 2) r0 0 h0
      exact ⟨rb, roff, fun _ => h⟩
    · exact ⟨0, 0, fun h => absurd h h0⟩
  have SH := Lib.hid (shelveI x.tables[i] ra rq rb roff B w1 hra KL.out.1 r0)
  have HRA := Lib.hid hra
  have HR0 := Lib.hid r0
  clear hcc r0 hra
  generalize x.tables[i] = l at *
  go_wp2_with fail
  refine SH.out.mono ?_
  rintro e w2 ⟨m, D, rfl, hown, hsh, hm, hB2⟩
  have hlook := look_shelf hown hsh HO.out.2.2
  have H2 := Lib.hid (H1.out.later hB2)
  have HB2 := Lib.hid hB2
  clear hown hsh hB2 x0 c0
  rcases rpl_cases l id with ⟨hr, hno⟩ | ⟨k, hkl, hr, hke, hkn⟩
  · have HZ : Hid (rowAtP x i id = (5, rowZ)) := by show rowAtP x i id = _; rw [HP.out, hr]; rfl
    rw [ptr_none (Nat.le_refl _) hno] at hlook
    have r0 := cell_at (o := 0) H2.out.rv rfl
    have r1 := cell_at (o := 1) H2.out.rv rfl
    have g0 := frozen_at 0 H2.out.rv
    have g1 := frozen_at 1 H2.out.rv
    clear hr hno
    go_wp2_with fail
    exact bodyPost_ret (v := .tuple #[.agg #[.int .i64 0, .slice none 0 0], .int .i64 5]) (by simp [results, Try.results9, go_sem, *]) rfl (RaAns.zero HZ.out ((H2.out.bel.setCell (by simp <;> omega) _).setCell (by simp <;> omega) _))
  · have HZ : Hid (rowAtP x i id = (0, l[k])) := by
      show rowAtP x i id = _
      rw [HP.out, hr, if_neg (by omega), Int.toNat_natCast, getD_tab hkl]
    rw [ptr_at (rise_uniq HPL.out) hkl hke (Nat.le_refl _) hkl] at hlook
    obtain rfl := HRA.out (by omega)
    have hr2 := HR0.out.later HB2.out
    obtain ⟨u0, e0, q0⟩ := Rd.spotT (d := dRow) (n := 2) hr2 hkl (j := 0) (by omega)
    obtain rfl : u0 = .int .i64 l[k].id := q0
    obtain ⟨u1, e1, q1⟩ := Rd.spotT (d := dRow) (n := 2) hr2 hkl (j := 1) (by omega)
    replace q1 : Rd w2 B (dAtomSS l[k].cells) u1 := q1
    obtain ⟨sa, sq, rfl⟩ := q1.lsSlice
    have CR := Lib.hid (copyRowI l[k] rb (roff + k * 2) sa sq B w2 ((Ls_le.1 KL.out.2).2.2 k hkl 1 (by omega)) q1 e0 e1)
    clear hr hke hkn hr2 e0 e1 q1
    generalize l[k] = y at *
    go_wp2_with fail
    refine CR.out.mono ?_
    rintro e w3 ⟨q, rfl, hown3, hB3⟩
    have H3 := Lib.hid (H2.out.later hB3)
    have HO3 := Lib.hid hown3
    have HS3 : Hid (w.heap.size + 1 < w2.heap.size ∧ w.heap.size ≤ w2.heap.size) := ⟨(Array.getElem?_eq_some_iff.1 H2.out.rv).1, H2.out.bel.size⟩
    have r0 := cell_at (o := 0) H3.out.rv rfl
    have r1 := cell_at (o := 1) H3.out.rv rfl
    have g0 := frozen_at 0 H3.out.rv
    have g1 := frozen_at 1 H3.out.rv
    clear hown3 hB3 hlook
    go_wp2_with fail
    refine bodyPost_ret (v := .tuple #[.agg #[.int .i64 y.id, .slice (some ⟨q, 0, none⟩) y.cells.length y.cells.length], .int .i64 0]) (by simp [results, Try.results9, go_sem, *]) rfl ?_
    have hfr : Frm (· = w.heap.size + 1) w3 ((w3.setCell ⟨w.heap.size + 1, 0, none⟩ (.int .i64 y.id)).setCell ⟨w.heap.size + 1, 1, none⟩ (.slice (some ⟨q, 0, none⟩) y.cells.length y.cells.length)) := (frm_set _ _ _ _).trans (frm_set _ _ _ _)
    refine ⟨some ⟨q, 0, none⟩, y.cells.length, by rw [HZ.out], ?_, (H3.out.bel.setCell (by simp <;> omega) _).setCell (by simp <;> omega) _⟩
    rw [HZ.out]
    have hs := HS3.out
    exact (HO3.out.frm hfr (fun b hb e => by have h1 := hb.1; have e' : b = w.heap.size + 1 := e; omega)).mono (fun b hb => ⟨by have := hb.1; omega, by simpa using hb.2⟩)
end Go.Proofs.Ytgnghkcjgeaedaa
