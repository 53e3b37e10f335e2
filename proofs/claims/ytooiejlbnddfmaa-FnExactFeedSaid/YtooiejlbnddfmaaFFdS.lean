import Derived.Test.YtooiejlbnddfmaaFFdI
import Derived.Test.YtooiejlbnddfmaaFOkS
namespace Go.Proofs.Ytooiejlbnddfmaa
open Go.RowKit
set_option linter.unusedSimpArgs false
theorem fin5 {w W : World} {B : Nat} {v : Value} {xs : List Value} (hb : Below w.heap.size w W) (hob : OB W B 9 v xs) (hB : w.heap.size + 2 ≤ B) (y0 y1 y2 y3 y4 : Value) : Below w.heap.size w (((((W.setCell ⟨w.heap.size + 1, 0, none⟩ y0).setCell ⟨w.heap.size + 1, 1, none⟩ y1).setCell ⟨w.heap.size + 1, 2, none⟩ y2).setCell ⟨w.heap.size + 1, 3, none⟩ y3).setCell ⟨w.heap.size + 1, 4, none⟩ y4) ∧ OB (((((W.setCell ⟨w.heap.size + 1, 0, none⟩ y0).setCell ⟨w.heap.size + 1, 1, none⟩ y1).setCell ⟨w.heap.size + 1, 2, none⟩ y2).setCell ⟨w.heap.size + 1, 3, none⟩ y3).setCell ⟨w.heap.size + 1, 4, none⟩ y4) w.heap.size 9 v xs := by
  have hn : w.heap.size ≤ w.heap.size + 1 := Nat.le_succ _
  refine ⟨((((hb.setCell hn y0).setCell hn y1).setCell hn y2).setCell hn y3).setCell hn y4, (hob.mono (by omega)).same (fun q hq => ?_)⟩
  have hk : q ≠ w.heap.size + 1 := by have := (hob.lt hq).1; omega
  rw [heap_setO _ _ _ _ _ hk, heap_setO _ _ _ _ _ hk, heap_setO _ _ _ _ _ hk, heap_setO _ _ _ _ _ hk, heap_setO _ _ _ _ _ hk]
set_option maxRecDepth 100000 in
set_option maxHeartbeats 6400000 in
theorem fdS (f : Fr) (s : ByteArray) (w : World) (hl : f.buf.length ≤ 10000000) (hs : s.size ≤ 10000000) :
    Calls Try.prog 10 #[.agg #[.string ⟨f.buf.toArray⟩, .int .i64 f.d, .bool f.q, .bool f.s, .bool f.c], .string s] w (FdAns3 w (fdF f s) (fdO f s) (fdC f s)) := by
  have HB0 : Hid (Below w.heap.size w ((w.alloc (frB f)).alloc (frB fr0))) := ((Below.refl _ _).alloc (Nat.le_refl _) _).alloc (by simp) _
  by_cases h1 : 65536 < s.size
  · have HR : Hid (fdF f s = fr0 ∧ fdO f s = [] ∧ fdC f s = 2) := ⟨by unfold fdF; rw [if_pos h1], by unfold fdO; rw [if_pos h1], by unfold fdC; rw [if_pos h1]⟩
    have d1 : decide (65536 < (s.size : Int)) = true := decide_eq_true (by omega)
    have HE : Hid (OB (((w.alloc (frB f)).alloc (frB fr0)).alloc (.cells #[] 9)) w.heap.size 9 (.slice (some ⟨w.heap.size + 2, 0, none⟩) 0 0) (sc [])) := by
      have := OB.empty ((w.alloc (frB f)).alloc (frB fr0)) 9 w.heap.size (by simp; omega)
      rw [show ((w.alloc (frB f)).alloc (frB fr0)).heap.size = w.heap.size + 2 by simp] at this
      exact this
    go_enter Try.func10, Try.ntmps10
    go_wp2_with fail
    refine bodyPost_ret (v := .tuple #[.agg #[.string ⟨#[]⟩, .int .i64 0, .bool false, .bool false, .bool false], .slice (some ⟨w.heap.size + 2, 0, none⟩) 0 0, .int .i64 2]) (by simp [results, Try.results10, go_sem]) rfl ?_
    rw [HR.out.1, HR.out.2.1, HR.out.2.2]
    exact ⟨_, 0, rfl, HB0.out.alloc HB0.out.size _, HE.out⟩
  have d1 : decide (65536 < (s.size : Int)) = false := decide_eq_false (by omega)
  have OK : Hid (∀ W, Calls Try.prog 7 #[.agg #[.string ⟨f.buf.toArray⟩, .int .i64 f.d, .bool f.q, .bool f.s, .bool f.c]] W fun e w' => e = .returned (.bool (okF f)) ∧ Below W.heap.size W w') := fun W => okS f W hl
  have HX : Hid (∀ W : World, Below ((w.alloc (frB f)).alloc (frB fr0)).heap.size ((w.alloc (frB f)).alloc (frB fr0)) W → W.heap[w.heap.size]? = some (frB f) ∧ W.heap[w.heap.size + 1]? = some (frB fr0) ∧ Below w.heap.size w W ∧ w.heap.size + 2 ≤ W.heap.size) := fun W h => by
    have e1 : (w.alloc (frB f)).heap.size = w.heap.size + 1 := by simp
    have e2 : ((w.alloc (frB f)).alloc (frB fr0)).heap.size = w.heap.size + 2 := by simp
    refine ⟨kept (kept (heap_new' w (frB f)) ((Below.refl _ _).alloc (Nat.le_refl _) _)) h, kept (by rw [← e1]; exact heap_new' _ _) h, HB0.out.trans (h.mono (by omega)), by have := h.size; omega⟩
  cases hk : okF f
  · have HR : Hid (fdF f s = fr0 ∧ fdO f s = [] ∧ fdC f s = 1) := ⟨by unfold fdF; rw [if_neg h1, if_pos hk], by unfold fdO; rw [if_neg h1, if_pos hk], by unfold fdC; rw [if_neg h1, if_pos hk]⟩
    rw [hk] at OK
    clear h1 hk
    go_enter Try.func10, Try.ntmps10
    go_wp2_with (go_at_call 7; refine (OK.out _).mono ?_; rintro e w3 ⟨rfl, hB3⟩; have H3 := Lib.hid (HX.out _ hB3); obtain ⟨r0, r1, r2, r3, r4⟩ := frB_cell (show (w3.alloc (.cells #[] 9)).heap[w.heap.size + 1]? = some (frB fr0) from kept H3.out.2.1 ((Below.refl _ _).alloc (Nat.le_refl _) _)); have z0 := frozen_at 0 (show (w3.alloc (.cells #[] 9)).heap[w.heap.size + 1]? = some (frB fr0) from kept H3.out.2.1 ((Below.refl _ _).alloc (Nat.le_refl _) _)); have z1 := frozen_at 1 (show (w3.alloc (.cells #[] 9)).heap[w.heap.size + 1]? = some (frB fr0) from kept H3.out.2.1 ((Below.refl _ _).alloc (Nat.le_refl _) _)); have z2 := frozen_at 2 (show (w3.alloc (.cells #[] 9)).heap[w.heap.size + 1]? = some (frB fr0) from kept H3.out.2.1 ((Below.refl _ _).alloc (Nat.le_refl _) _)); have z3 := frozen_at 3 (show (w3.alloc (.cells #[] 9)).heap[w.heap.size + 1]? = some (frB fr0) from kept H3.out.2.1 ((Below.refl _ _).alloc (Nat.le_refl _) _)); have z4 := frozen_at 4 (show (w3.alloc (.cells #[] 9)).heap[w.heap.size + 1]? = some (frB fr0) from kept H3.out.2.1 ((Below.refl _ _).alloc (Nat.le_refl _) _)); clear hB3)
    refine bodyPost_ret (v := .tuple #[.agg #[.string ⟨#[]⟩, .int .i64 0, .bool false, .bool false, .bool false], .slice (some ⟨w3.heap.size, 0, none⟩) 0 0, .int .i64 1]) (by simp [results, Try.results10, go_sem, r0, r1, r2, r3, r4]) rfl ?_
    rw [HR.out.1, HR.out.2.1, HR.out.2.2]
    have hf := fin5 (H3.out.2.2.1.alloc H3.out.2.2.1.size (.cells #[] 9)) (OB.empty w3 9 w3.heap.size (Nat.le_refl _)) H3.out.2.2.2
    exact ⟨_, 0, rfl, (hf _ _ _ _ _).1, (hf _ _ _ _ _).2⟩
  rw [hk] at OK
  cases hc : f.c
  case true =>
    have HR : Hid (fdF f s = f ∧ fdO f s = [] ∧ fdC f s = 17) := ⟨by unfold fdF; rw [if_neg h1, if_neg (by simp [hk]), if_pos hc], by unfold fdO; rw [if_neg h1, if_neg (by simp [hk]), if_pos hc], by unfold fdC; rw [if_neg h1, if_neg (by simp [hk]), if_pos hc]⟩
    clear h1 hk
    have HC : Hid (f.c = true) := hc
    rw [hc] at OK
    clear hc
    go_enter Try.func10, Try.ntmps10
    go_wp2_with (go_at_call 7; refine (OK.out _).mono ?_; rintro e w3 ⟨rfl, hB3⟩; have H3 := Lib.hid (HX.out _ (by rw [frB, HC.out]; exact hB3)); obtain ⟨r0, r1, r2, r3, r4⟩ := frB_cell (show (w3.alloc (.cells #[] 9)).heap[w.heap.size + 1]? = some (frB fr0) from kept H3.out.2.1 ((Below.refl _ _).alloc (Nat.le_refl _) _)); have z0 := frozen_at 0 (show (w3.alloc (.cells #[] 9)).heap[w.heap.size + 1]? = some (frB fr0) from kept H3.out.2.1 ((Below.refl _ _).alloc (Nat.le_refl _) _)); have z1 := frozen_at 1 (show (w3.alloc (.cells #[] 9)).heap[w.heap.size + 1]? = some (frB fr0) from kept H3.out.2.1 ((Below.refl _ _).alloc (Nat.le_refl _) _)); have z2 := frozen_at 2 (show (w3.alloc (.cells #[] 9)).heap[w.heap.size + 1]? = some (frB fr0) from kept H3.out.2.1 ((Below.refl _ _).alloc (Nat.le_refl _) _)); have z3 := frozen_at 3 (show (w3.alloc (.cells #[] 9)).heap[w.heap.size + 1]? = some (frB fr0) from kept H3.out.2.1 ((Below.refl _ _).alloc (Nat.le_refl _) _)); have z4 := frozen_at 4 (show (w3.alloc (.cells #[] 9)).heap[w.heap.size + 1]? = some (frB fr0) from kept H3.out.2.1 ((Below.refl _ _).alloc (Nat.le_refl _) _)); obtain ⟨x0, x1, x2, x3, x4⟩ := frB_cell H3.out.1; rw [HC.out] at x4; clear hB3)
    refine bodyPost_ret (v := .tuple #[.agg #[.string ⟨f.buf.toArray⟩, .int .i64 f.d, .bool f.q, .bool f.s, .bool true], .slice (some ⟨w3.heap.size, 0, none⟩) 0 0, .int .i64 17]) (by simp [results, Try.results10, go_sem, r0, r1, r2, r3, r4]) rfl ?_
    rw [HR.out.1, HR.out.2.1, HR.out.2.2]
    have hf := fin5 (H3.out.2.2.1.alloc H3.out.2.2.1.size (.cells #[] 9)) (OB.empty w3 9 w3.heap.size (Nat.le_refl _)) H3.out.2.2.2
    exact ⟨_, 0, by rw [HC.out]; rfl, (hf _ _ _ _ _).1, (hf _ _ _ _ _).2⟩
  have HR : Hid (fdF f s = (feedL f s.data.toList).1 ∧ fdO f s = (feedL f s.data.toList).2 ∧ fdC f s = 0) := ⟨by unfold fdF; rw [if_neg h1, if_neg (by simp [hk]), if_neg (by simp [hc])], by unfold fdO; rw [if_neg h1, if_neg (by simp [hk]), if_neg (by simp [hc])], by unfold fdC; rw [if_neg h1, if_neg (by simp [hk]), if_neg (by simp [hc])]⟩
  have HI := Lib.hid (ok_inv hk hc)
  have FE := Lib.hid (fun W => feedS s f W HI.out hs)
  rw [hc] at FE
  obtain ⟨R, hR⟩ : ∃ R, R = feedL f s.data.toList := ⟨_, rfl⟩
  rw [← hR] at FE HR
  obtain ⟨⟨gb, gd, gq, gs, gc⟩, o⟩ := R
  clear hR h1 hk
  have HC : Hid (f.c = false) := hc
  rw [hc] at OK
  clear hc
  go_enter Try.func10, Try.ntmps10
  go_wp2_with (first
    | (go_at_call 7; refine (OK.out _).mono ?_; rintro e w3 ⟨rfl, hB3⟩; have H3 := Lib.hid (HX.out _ (by rw [frB, HC.out]; exact hB3)); obtain ⟨x0, x1, x2, x3, x4⟩ := frB_cell H3.out.1; rw [HC.out] at x4; clear hB3)
    | (go_at_call 20; refine (FE.out _).mono ?_; rintro e w4 ⟨a4, c4, rfl, hB4, ho4⟩; have HO4 := Lib.hid ho4; have HB4 := Lib.hid hB4; obtain ⟨r0, r1, r2, r3, r4⟩ := frB_cell (show (w4.alloc (.cells #[.string ⟨gb.toArray⟩, .int .i64 gd, .bool gq, .bool gs, .bool gc] 26)).heap[w.heap.size + 1]? = some (frB fr0) from kept (kept H3.out.2.1 hB4) ((Below.refl _ _).alloc (Nat.le_refl _) _)); have z0 := frozen_at 0 (show (w4.alloc (.cells #[.string ⟨gb.toArray⟩, .int .i64 gd, .bool gq, .bool gs, .bool gc] 26)).heap[w.heap.size + 1]? = some (frB fr0) from kept (kept H3.out.2.1 hB4) ((Below.refl _ _).alloc (Nat.le_refl _) _)); have z1 := frozen_at 1 (show (w4.alloc (.cells #[.string ⟨gb.toArray⟩, .int .i64 gd, .bool gq, .bool gs, .bool gc] 26)).heap[w.heap.size + 1]? = some (frB fr0) from kept (kept H3.out.2.1 hB4) ((Below.refl _ _).alloc (Nat.le_refl _) _)); have z2 := frozen_at 2 (show (w4.alloc (.cells #[.string ⟨gb.toArray⟩, .int .i64 gd, .bool gq, .bool gs, .bool gc] 26)).heap[w.heap.size + 1]? = some (frB fr0) from kept (kept H3.out.2.1 hB4) ((Below.refl _ _).alloc (Nat.le_refl _) _)); have z3 := frozen_at 3 (show (w4.alloc (.cells #[.string ⟨gb.toArray⟩, .int .i64 gd, .bool gq, .bool gs, .bool gc] 26)).heap[w.heap.size + 1]? = some (frB fr0) from kept (kept H3.out.2.1 hB4) ((Below.refl _ _).alloc (Nat.le_refl _) _)); have z4 := frozen_at 4 (show (w4.alloc (.cells #[.string ⟨gb.toArray⟩, .int .i64 gd, .bool gq, .bool gs, .bool gc] 26)).heap[w.heap.size + 1]? = some (frB fr0) from kept (kept H3.out.2.1 hB4) ((Below.refl _ _).alloc (Nat.le_refl _) _)); clear hB4 ho4))
  refine bodyPost_ret (v := .tuple #[.agg #[.string ⟨gb.toArray⟩, .int .i64 gd, .bool gq, .bool gs, .bool gc], .slice a4 o.length c4, .int .i64 0]) (by simp [results, Try.results10, go_sem, r0, r1, r2, r3, r4]) rfl ?_
  rw [HR.out.1, HR.out.2.1, HR.out.2.2]
  have hal : Below w4.heap.size w4 (w4.alloc (.cells #[.string ⟨gb.toArray⟩, .int .i64 gd, .bool gq, .bool gs, .bool gc] 26)) := (Below.refl _ _).alloc (Nat.le_refl _) _
  have hb4 := H3.out.2.2.1.trans (HB4.out.mono H3.out.2.2.1.size)
  have hf := fin5 (hb4.trans (hal.mono hb4.size)) (HO4.out.same (fun q hq => hal.block q (HO4.out.lt hq).2)) H3.out.2.2.2
  exact ⟨a4, c4, rfl, (hf _ _ _ _ _).1, (hf _ _ _ _ _).2⟩
end Go.Proofs.Ytooiejlbnddfmaa
