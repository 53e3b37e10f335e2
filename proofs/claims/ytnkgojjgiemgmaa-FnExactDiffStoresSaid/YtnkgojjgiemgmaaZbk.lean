import Derived.Test.YtnkgojjgiemgmaaZbj
namespace Go.Proofs.Ytnkgojjgiemgmaa
open Go.RowKit Go.Maps
set_option linter.unusedSimpArgs false
def ShS (W : World) (mp : Nat) (l : List RowV) (rb roff : Nat) : Prop := ∃ D n, W.ownsMap Try.prog 3 ptrR mp n D ∧ ShM D l rb roff l.length
theorem ShS.later {W W' : World} {mp : Nat} {l : List RowV} {rb roff : Nat} (h : ShS W mp l rb roff) (hB : Below W.heap.size W W') : ShS W' mp l rb roff := by
  obtain ⟨D, n, ⟨es, clock, hb, F, hs, hD⟩, h2⟩ := h
  exact ⟨D, n, ⟨es, clock, by rw [hB.block mp (Array.getElem?_eq_some_iff.1 hb).1]; exact hb, F, hs, hD⟩, h2⟩
theorem ShS.kept {W W' : World} {mp : Nat} {l : List RowV} {rb roff : Nat} (h : ShS W mp l rb roff) (hB : W'.heap[mp]? = W.heap[mp]?) : ShS W' mp l rb roff := by
  obtain ⟨D, n, ⟨es, clock, hb, F, hs, hD⟩, h2⟩ := h
  exact ⟨D, n, ⟨es, clock, by rw [hB]; exact hb, F, hs, hD⟩, h2⟩
theorem ShS.lt {W : World} {mp : Nat} {l : List RowV} {rb roff : Nat} (h : ShS W mp l rb roff) : mp < W.heap.size := by
  obtain ⟨D, n, ⟨es, clock, hb, -⟩, h2⟩ := h
  exact (Array.getElem?_eq_some_iff.1 hb).1
def CpAns (l : List RowV) (id : Int) (w : World) (e : Ending) (w' : World) : Prop := ∃ va vc, e = .returned (.agg #[.int .i64 (rowD l id).id, .slice va (rowD l id).cells.length vc]) ∧ Own w' (dAtomSS (rowD l id).cells) (fun c => w.heap.size ≤ c ∧ c < w'.heap.size) (.slice va (rowD l id).cells.length vc) ∧ Below w.heap.size w w'
set_option maxRecDepth 100000 in
set_option maxHeartbeats 3200000 in
theorem copyOfI (l : List RowV) (rb roff : Nat) (a : Option Addr) (c : Nat) (B : Nat → Prop) (mp : Nat) (id : Int) (w : World) (ha : 0 < l.length → a = some ⟨rb, roff, none⟩) (hr : riseIds l) (ho : (dRowS l).le 1048576) (hid : iOK id) (hS : Rd w B (dRowS l) (.slice a l.length c)) (hsh : ShS w mp l rb roff) :
    Calls Try.prog 21 #[.map (some mp), .int .i64 id] w (CpAns l id w) := by
  have hb := boxD 53 w #[.int .i64 0, .slice none 0 0]
  obtain ⟨D, n, hown, hm⟩ := hsh.later hb.2
  have hlook := look_shelf hown hm hid
  have HB := Lib.hid hb
  have HS := Lib.hid hS
  have HA := Lib.hid ha
  have HO := Lib.hid ho
  clear hown hm hid hsh hS ha ho hb
  rcases rpl_cases l id with ⟨hp, hno⟩ | ⟨k, hkl, hp, hke, hkn⟩
  · have HZ := Lib.hid (rowD_none hp)
    rw [ptr_none (Nat.le_refl _) hno] at hlook
    have r0 := cell_at (o := 0) HB.out.1 rfl
    have r1 := cell_at (o := 1) HB.out.1 rfl
    have g0 := frozen_at 0 HB.out.1
    have g1 := frozen_at 1 HB.out.1
    clear hp hno
    go_enter Try.func21, Try.ntmps21
    go_wp2_with fail
    refine bodyPost_ret (v := .agg #[.int .i64 0, .slice none 0 0]) (by simp [results, Try.results21, go_sem, *]) rfl ?_
    exact ⟨none, 0, by rw [HZ.out]; rfl, by rw [HZ.out]; exact ⟨none, 0, rfl, .inl rfl⟩, by first | exact HB.out.2 | exact (HB.out.2.setCell (by simp <;> omega) _).setCell (by simp <;> omega) _ | exact (Below.refl _ _).alloc (Nat.le_refl _) _⟩
  · have HZ := Lib.hid (rowD_at hkl hp)
    rw [ptr_at (rise_uniq hr) hkl hke (Nat.le_refl _) hkl] at hlook
    obtain rfl := HA.out (by omega)
    have hr2 := HS.out.later HB.out.2
    obtain ⟨u0, e0, q0⟩ := Rd.spotT (d := dRow) (n := 2) hr2 hkl (j := 0) (by omega)
    obtain rfl : u0 = .int .i64 l[k].id := q0
    obtain ⟨u1, e1, q1⟩ := Rd.spotT (d := dRow) (n := 2) hr2 hkl (j := 1) (by omega)
    replace q1 : Rd _ B (dAtomSS l[k].cells) u1 := q1
    obtain ⟨sa, sq, rfl⟩ := q1.lsSlice
    have CR := Lib.hid (copyRowI l[k] rb (roff + k * 2) sa sq B _ ((Ls_le.1 HO.out).2.2 k hkl 1 (by omega)) q1 e0 e1)
    clear hp hke hkn hr2 e0 e1 q1
    generalize l[k] = y at *
    go_enter Try.func21, Try.ntmps21
    go_wp2_with fail
    refine CR.out.mono ?_
    rintro e w3 ⟨q, rfl, hown3, hB3⟩
    have H3 := Lib.hid (HB.out.later hB3)
    have HO3 := Lib.hid hown3
    have r0 := cell_at (o := 0) H3.out.1 rfl
    have r1 := cell_at (o := 1) H3.out.1 rfl
    have g0 := frozen_at 0 H3.out.1
    have g1 := frozen_at 1 H3.out.1
    clear hown3 hB3 hlook
    go_wp2_with fail
    refine bodyPost_ret (v := .agg #[.int .i64 y.id, .slice (some ⟨q, 0, none⟩) y.cells.length y.cells.length]) (by simp [results, Try.results21, go_sem, *]) rfl ?_
    have hfr : Frm (· = w.heap.size) w3 ((w3.setCell ⟨w.heap.size, 0, none⟩ (.int .i64 y.id)).setCell ⟨w.heap.size, 1, none⟩ (.slice (some ⟨q, 0, none⟩) y.cells.length y.cells.length)) := (frm_set _ _ _ _).trans (frm_set _ _ _ _)
    refine ⟨some ⟨q, 0, none⟩, y.cells.length, by rw [HZ.out], ?_, (H3.out.2.setCell (by simp <;> omega) _).setCell (by simp <;> omega) _⟩
    rw [HZ.out]
    exact (HO3.out.frm hfr (fun b hb e => by have h1 := hb.1; rw [size_allocD] at h1; have e' : b = w.heap.size := e; omega)).mono (fun b hb => ⟨by have := hb.1; rw [size_allocD] at this; omega, by simpa using hb.2⟩)
end Go.Proofs.Ytnkgojjgiemgmaa
