import Derived.Test.YtooiejlbnddfmaaFFr
namespace Go.Proofs.Ytooiejlbnddfmaa
open Go.RowKit
set_option linter.unusedSimpArgs false
def sameF (f g : Fr) : Bool := (f.buf == g.buf) && ((f.d == g.d) && ((f.q == g.q) && ((f.s == g.s) && (f.c == g.c))))
theorem sameF_iff {f g : Fr} : sameF f g = true ↔ f = g := by
  unfold sameF
  constructor
  · intro h
    simp at h
    exact Fr.ext' h.1 h.2.1 h.2.2.1 h.2.2.2.1 h.2.2.2.2
  · rintro rfl; simp
/-- whether some bytes make f of a zero framer -/
def okF (f : Fr) : Bool := if f.c = true then sameF f frC else if 3000 < f.buf.length then false else sameF f (feedL fr0 f.buf).1
/-- a framer's box -/
def frB (f : Fr) : Obj := .cells #[.string ⟨f.buf.toArray⟩, .int .i64 f.d, .bool f.q, .bool f.s, .bool f.c] 26
theorem frB_cell {W : World} {k : Nat} {f : Fr} (h : W.heap[k]? = some (frB f)) : W.cell? ⟨k, 0, none⟩ = some (.string ⟨f.buf.toArray⟩) ∧ W.cell? ⟨k, 1, none⟩ = some (.int .i64 f.d) ∧ W.cell? ⟨k, 2, none⟩ = some (.bool f.q) ∧ W.cell? ⟨k, 3, none⟩ = some (.bool f.s) ∧ W.cell? ⟨k, 4, none⟩ = some (.bool f.c) :=
  ⟨cell_at (o := 0) h rfl, cell_at (o := 1) h rfl, cell_at (o := 2) h rfl, cell_at (o := 3) h rfl, cell_at (o := 4) h rfl⟩
theorem kept {w w' : World} {b : Nat} {o : Obj} (h : w.heap[b]? = some o) (hB : Below w.heap.size w w') : w'.heap[b]? = some o := by
  rw [hB.block b (Array.getElem?_eq_some_iff.1 h).1]; exact h
/-- a new framing -/
theorem St.new (w : World) (f : Fr) (vb : Value) (hb : OB w w.heap.size 5 vb (bc f.buf)) : St w w.heap.size (w.alloc (.cells (fcs f vb (.slice none 0 0)) 43)) f [] := by
  have hB : Below w.heap.size w (w.alloc (.cells (fcs f vb (.slice none 0 0)) 43)) := (Below.refl _ _).alloc (Nat.le_refl _) _
  exact ⟨vb, .slice none 0 0, hB, Nat.le_refl _, heap_new' _ _, hb.same (fun g hg => hB.block g (hb.lt hg).2), OB.nil _ _ _, fun e => by have := (hb.lt e).2; omega, by simp [Value.ownBlock], fun g _ => by simp [Value.ownBlock]⟩
set_option maxRecDepth 100000 in
set_option maxHeartbeats 6400000 in
theorem okI (f : Fr) (w : World) (hl : f.buf.length ≤ 10000000) :
    Calls Try.prog 9 #[.agg #[.string ⟨f.buf.toArray⟩, .int .i64 f.d, .bool f.q, .bool f.s, .bool f.c]] w fun e w' => e = .returned (.bool (okF f)) ∧ Below w.heap.size w w' := by
  have HB1 : Hid (Below w.heap.size w (w.alloc (frB f))) := (Below.refl _ _).alloc (Nat.le_refl _) _
  cases hc : f.c
  case true =>
    have HR : Hid (okF f = sameF f frC) := by show okF f = _; unfold okF; rw [if_pos hc]
    unfold frB at HB1
    rw [hc] at HB1
    go_enter Try.func9, Try.ntmps9
    go_wp2_with fail
    all_goals
      go_ret
      refine ⟨ret_b ?_, (Below.refl _ _).alloc (Nat.le_refl _) _⟩
      rw [HR.out]
      simp [sameF, frC, *]
  by_cases h3 : 3000 < f.buf.length
  · have HR : Hid (okF f = false) := by show okF f = _; unfold okF; rw [if_neg (by simp [hc]), if_pos h3]
    have d3 : decide (3000 < (f.buf.length : Int)) = true := decide_eq_true (by omega)
    go_enter Try.func9, Try.ntmps9
    go_wp2_with fail
    go_ret
    exact ⟨ret_b HR.out.symm, (Below.refl _ _).alloc (Nat.le_refl _) _⟩
  have d3 : decide (3000 < (f.buf.length : Int)) = false := decide_eq_false (by omega)
  obtain ⟨g, hg⟩ : ∃ g, g = (feedL fr0 f.buf).1 := ⟨_, rfl⟩
  have HR : Hid (okF f = sameF f g) := by show okF f = _; unfold okF; rw [if_neg (by simp [hc]), if_neg h3, hg]
  obtain ⟨o, ho⟩ : ∃ o, o = (feedL fr0 f.buf).2 := ⟨_, rfl⟩
  have FE : Hid (∀ W, St (w.alloc (frB f)) (w.alloc (frB f)).heap.size W fr0 [] → Calls Try.prog 21 #[.pointer (some ⟨w.heap.size + 1, 0, none⟩), .string ⟨f.buf.toArray⟩] W (fun e W' => e = .returned (.tuple #[]) ∧ St (w.alloc (frB f)) (w.heap.size + 1) W' g o)) := fun W h => by
    have := feedI ⟨f.buf.toArray⟩ h inv0 (by show 0 + 0 + f.buf.toArray.size ≤ _; simp; omega)
    have e : (⟨f.buf.toArray⟩ : ByteArray).data.toList = f.buf := rfl
    rw [e, ← hg, ← ho, List.nil_append] at this
    rw [show (w.alloc (frB f)).heap.size = w.heap.size + 1 by simp] at this
    exact this
  have H0 := Lib.hid (St.new (w.alloc (frB f)) fr0 (.slice none 0 0) (OB.nil _ _ _))
  have hxb : ∀ W p' g' o', St (w.alloc (frB f)) p' W g' o' → W.heap[w.heap.size]? = some (frB f) := fun W p' g' o' h => by
    obtain ⟨vb, ve, h⟩ := h
    exact kept (heap_new' w (frB f)) h.bel
  have HXB := Lib.hid hxb
  have hbl : ∀ W p' g' o', St (w.alloc (frB f)) p' W g' o' → Below w.heap.size w W := fun W p' g' o' h => by
    obtain ⟨vb, ve, h⟩ := h
    exact HB1.out.trans (h.bel.mono (by simp))
  have HBL := Lib.hid hbl
  clear hg ho hxb hbl h3
  obtain ⟨fb, fd, fq, fs, fc⟩ := f
  dsimp only at *
  subst hc
  go_enter Try.func9, Try.ntmps9
  go_wp2_with (go_at_call 21; refine (FE.out _ H0.out).mono ?_; rintro e w3 ⟨rfl, hs⟩; have x := frB_cell (HXB.out _ _ _ _ hs); dsimp only at x; obtain ⟨x0, x1, x2, x3, x4⟩ := x; have HS := Lib.hid hs; clear hs)
  have HX := Lib.hid (HXB.out _ _ _ _ HS.out)
  have HS' : Hid (St (w.alloc (frB ⟨fb, fd, fq, fs, false⟩)) (w.heap.size + 1) w3.drew g o) := by
    obtain ⟨vb, ve, h⟩ := HS.out
    exact ⟨vb, ve, h.drew⟩
  obtain ⟨gb, gd, gq, gs, gc⟩ := g
  by_cases e1 : fb = gb
  case neg =>
    have HR : Hid (okF ⟨fb, fd, fq, fs, false⟩ = false) := by show _ = _; rw [HR.out]; simp [sameF, e1]
    go_region_with (go_at_call 22; refine (framerI HS'.out).mono ?_; rintro e w4 ⟨rfl, hB4⟩; have x := frB_cell (kept (show (World.drew w3).heap[w.heap.size]? = _ from HX.out) hB4); dsimp only at x; obtain ⟨x0, x1, x2, x3, x4⟩ := x; have HB4 := Lib.hid ((HBL.out _ _ _ _ HS'.out).trans (hB4.mono (HBL.out _ _ _ _ HS'.out).size)); clear hB4)
    all_goals
      go_wp2_with fail
      go_ret
      exact ⟨ret_b HR.out.symm, HB4.out⟩
  subst e1
  by_cases e2 : fd = gd
  case neg =>
    have HR : Hid (okF ⟨fb, fd, fq, fs, false⟩ = false) := by show _ = _; rw [HR.out]; simp [sameF, e2]
    go_region_with (go_at_call 22; refine (framerI HS'.out).mono ?_; rintro e w4 ⟨rfl, hB4⟩; have x := frB_cell (kept (show (World.drew w3).heap[w.heap.size]? = _ from HX.out) hB4); dsimp only at x; obtain ⟨x0, x1, x2, x3, x4⟩ := x; have HB4 := Lib.hid ((HBL.out _ _ _ _ HS'.out).trans (hB4.mono (HBL.out _ _ _ _ HS'.out).size)); clear hB4)
    all_goals
      go_wp2_with fail
      go_ret
      exact ⟨ret_b HR.out.symm, HB4.out⟩
  subst e2
  by_cases e3 : fq = gq
  case neg =>
    have HR : Hid (okF ⟨fb, fd, fq, fs, false⟩ = false) := by show _ = _; rw [HR.out]; simp [sameF, e3]
    have n1 : (fq == gq) = false := by simpa using e3
    have n2 : (fq != gq) = true := by simpa using e3
    go_region_with (go_at_call 22; refine (framerI HS'.out).mono ?_; rintro e w4 ⟨rfl, hB4⟩; have x := frB_cell (kept (show (World.drew w3).heap[w.heap.size]? = _ from HX.out) hB4); dsimp only at x; obtain ⟨x0, x1, x2, x3, x4⟩ := x; have HB4 := Lib.hid ((HBL.out _ _ _ _ HS'.out).trans (hB4.mono (HBL.out _ _ _ _ HS'.out).size)); clear hB4)
    all_goals
      go_wp2_with fail
      go_ret
      exact ⟨ret_b HR.out.symm, HB4.out⟩
  subst e3
  by_cases e4 : fs = gs
  case neg =>
    have HR : Hid (okF ⟨fb, fd, fq, fs, false⟩ = false) := by show _ = _; rw [HR.out]; simp [sameF, e4]
    have n1 : (fs == gs) = false := by simpa using e4
    have n2 : (fs != gs) = true := by simpa using e4
    go_region_with (go_at_call 22; refine (framerI HS'.out).mono ?_; rintro e w4 ⟨rfl, hB4⟩; have x := frB_cell (kept (show (World.drew w3).heap[w.heap.size]? = _ from HX.out) hB4); dsimp only at x; obtain ⟨x0, x1, x2, x3, x4⟩ := x; have HB4 := Lib.hid ((HBL.out _ _ _ _ HS'.out).trans (hB4.mono (HBL.out _ _ _ _ HS'.out).size)); clear hB4)
    all_goals
      go_wp2_with fail
      go_ret
      exact ⟨ret_b HR.out.symm, HB4.out⟩
  subst e4
  cases gc
  case true =>
    have HR : Hid (okF ⟨fb, fd, fq, fs, false⟩ = false) := by show _ = _; rw [HR.out]; simp [sameF]
    go_region_with (go_at_call 22; refine (framerI HS'.out).mono ?_; rintro e w4 ⟨rfl, hB4⟩; have x := frB_cell (kept (show (World.drew w3).heap[w.heap.size]? = _ from HX.out) hB4); dsimp only at x; obtain ⟨x0, x1, x2, x3, x4⟩ := x; have HB4 := Lib.hid ((HBL.out _ _ _ _ HS'.out).trans (hB4.mono (HBL.out _ _ _ _ HS'.out).size)); clear hB4)
    all_goals
      go_wp2_with fail
      go_ret
      exact ⟨ret_b HR.out.symm, HB4.out⟩
  have HR : Hid (okF ⟨fb, fd, fq, fs, false⟩ = true) := by show _ = _; rw [HR.out]; simp [sameF]
  go_region_with (go_at_call 22; refine (framerI HS'.out).mono ?_; rintro e w4 ⟨rfl, hB4⟩; have x := frB_cell (kept (show (World.drew w3).heap[w.heap.size]? = _ from HX.out) hB4); dsimp only at x; obtain ⟨x0, x1, x2, x3, x4⟩ := x; have HB4 := Lib.hid ((HBL.out _ _ _ _ HS'.out).trans (hB4.mono (HBL.out _ _ _ _ HS'.out).size)); clear hB4)
  all_goals
    go_wp2_with fail
    go_ret
    exact ⟨ret_b HR.out.symm, HB4.out⟩
end Go.Proofs.Ytooiejlbnddfmaa
