import Derived.Test.YtpigpidfpafcgaaZbw
import Derived.Test.YtpigpidfpafcgaaZbf
import Derived.Test.YtpigpidfpafcgaaZbx
import Derived.Test.YtpigpidfpafcgaaZby
import Derived.Deep.RegionHeld3
import Derived.Deep.CutRange
import Derived.Test.YtpigpidfpafcgaaZTk
namespace Go.Proofs.Ytpigpidfpafcgaa
open Go.RowKit
set_option linter.unusedSimpArgs false
set_option maxRecDepth 100000 in
set_option maxHeartbeats 12800000 in
theorem lawMutate (x0 : Cl) (x1 : List At) (x2 : MutV) (a1_ : Option Addr) (c1_ : Nat) (a2_2 : Option Addr) (c2_2 : Nat) (w : World) (l1_ : (dAtomS x1).le maxLen) (l2_2 : (dAtomS x2.val).le maxLen) (l0_0 : x0.nm.length ≤ maxLen) (l0_1 : iOK x0.k) (l0_2 : iOK x0.mn) (l0_3 : iOK x0.mx) (l0_4 : iOK x0.lo) (l0_5 : iOK x0.hi) (l0_6 : x0.rf.length ≤ maxLen) (l2_0 : x2.col.length ≤ maxLen) (l2_1 : iOK x2.fn) (r1_ : Rd w (· < w.heap.size) (dAtomS x1) (.slice a1_ x1.length c1_)) (r2_2 : Rd w (· < w.heap.size) (dAtomS x2.val) (.slice a2_2 x2.val.length c2_2)) :
    Calls Try.prog 3 #[.agg #[.string ⟨x0.nm.toArray⟩, .int .i64 x0.k, .int .i64 x0.mn, .int .i64 x0.mx, .int .i64 x0.lo, .int .i64 x0.hi, .string ⟨x0.rf.toArray⟩, .bool x0.st], .slice a1_ x1.length c1_, .agg #[.string ⟨x2.col.toArray⟩, .int .i64 x2.fn, .slice a2_2 x2.val.length c2_2]] w fun e w' => e = .returned (.bool true) ∧ Below w.heap.size w w' := by
  have HO0 : Hid (∀ j, j < 8 → (dColumn x0 j).le maxLen) := fun j hj => by
    rcases (by omega : j = 0 ∨ j = 1 ∨ j = 2 ∨ j = 3 ∨ j = 4 ∨ j = 5 ∨ j = 6 ∨ j = 7) with rfl | rfl | rfl | rfl | rfl | rfl | rfl | rfl
    · exact l0_0
    · exact l0_1
    · exact l0_2
    · exact l0_3
    · exact l0_4
    · exact l0_5
    · exact l0_6
    · exact trivial
  have HL1_ := Lib.hid l1_
  have HO1 := Lib.hid l1_
  have RA1_ : Hid (∀ W, Below w.heap.size w W → Rd W (· < w.heap.size) (dAtomS x1) (.slice a1_ x1.length c1_)) := fun W h => Rd.same (fun b hb => h.block b hb) (fun _ h => h) _ _ r1_
  have HL2_2 := Lib.hid l2_2
  have HO2 : Hid (∀ j, j < 3 → (dMut x2 j).le maxLen) := fun j hj => by
    rcases (by omega : j = 0 ∨ j = 1 ∨ j = 2) with rfl | rfl | rfl
    · exact l2_0
    · exact l2_1
    · exact l2_2
  have RA2_2 : Hid (∀ W, Below w.heap.size w W → Rd W (· < w.heap.size) (dAtomS x2.val) (.slice a2_2 x2.val.length c2_2)) := fun W h => Rd.same (fun b hb => h.block b hb) (fun _ h => h) _ _ r2_2
  have ALAT : Hid (∀ W W', (Below w.heap.size w W ∧ W.heap[w.heap.size]? = some (.cells #[.string ⟨x0.nm.toArray⟩, .int .i64 x0.k, .int .i64 x0.mn, .int .i64 x0.mx, .int .i64 x0.lo, .int .i64 x0.hi, .string ⟨x0.rf.toArray⟩, .bool x0.st] 23) ∧ W.heap[w.heap.size + 1]? = some (.cells #[.string ⟨x2.col.toArray⟩, .int .i64 x2.fn, .slice a2_2 x2.val.length c2_2] 26)) → Below W.heap.size W W' → (Below w.heap.size w W' ∧ W'.heap[w.heap.size]? = some (.cells #[.string ⟨x0.nm.toArray⟩, .int .i64 x0.k, .int .i64 x0.mn, .int .i64 x0.mx, .int .i64 x0.lo, .int .i64 x0.hi, .string ⟨x0.rf.toArray⟩, .bool x0.st] 23) ∧ W'.heap[w.heap.size + 1]? = some (.cells #[.string ⟨x2.col.toArray⟩, .int .i64 x2.fn, .slice a2_2 x2.val.length c2_2] 26))) := fun W W' h hB => ⟨h.1.trans (hB.mono h.1.size), heap_keptD h.2.1 hB, heap_keptD h.2.2 hB⟩
  have A0 : Hid (Below w.heap.size w ((w.alloc (.cells #[.string ⟨x0.nm.toArray⟩, .int .i64 x0.k, .int .i64 x0.mn, .int .i64 x0.mx, .int .i64 x0.lo, .int .i64 x0.hi, .string ⟨x0.rf.toArray⟩, .bool x0.st] 23)).alloc (.cells #[.string ⟨x2.col.toArray⟩, .int .i64 x2.fn, .slice a2_2 x2.val.length c2_2] 26)) ∧ ((w.alloc (.cells #[.string ⟨x0.nm.toArray⟩, .int .i64 x0.k, .int .i64 x0.mn, .int .i64 x0.mx, .int .i64 x0.lo, .int .i64 x0.hi, .string ⟨x0.rf.toArray⟩, .bool x0.st] 23)).alloc (.cells #[.string ⟨x2.col.toArray⟩, .int .i64 x2.fn, .slice a2_2 x2.val.length c2_2] 26)).heap[w.heap.size]? = some (.cells #[.string ⟨x0.nm.toArray⟩, .int .i64 x0.k, .int .i64 x0.mn, .int .i64 x0.mx, .int .i64 x0.lo, .int .i64 x0.hi, .string ⟨x0.rf.toArray⟩, .bool x0.st] 23) ∧ ((w.alloc (.cells #[.string ⟨x0.nm.toArray⟩, .int .i64 x0.k, .int .i64 x0.mn, .int .i64 x0.mx, .int .i64 x0.lo, .int .i64 x0.hi, .string ⟨x0.rf.toArray⟩, .bool x0.st] 23)).alloc (.cells #[.string ⟨x2.col.toArray⟩, .int .i64 x2.fn, .slice a2_2 x2.val.length c2_2] 26)).heap[w.heap.size + 1]? = some (.cells #[.string ⟨x2.col.toArray⟩, .int .i64 x2.fn, .slice a2_2 x2.val.length c2_2] 26)) := by
    refine ⟨(below_allocD _ _).trans ((below_allocD _ _).mono (by simp)), heap_keptD (heap_newD _ _) (below_allocD _ _), ?_⟩
    have h := heap_newD (w.alloc (.cells #[.string ⟨x0.nm.toArray⟩, .int .i64 x0.k, .int .i64 x0.mn, .int .i64 x0.mx, .int .i64 x0.lo, .int .i64 x0.hi, .string ⟨x0.rf.toArray⟩, .bool x0.st] 23)) (.cells #[.string ⟨x2.col.toArray⟩, .int .i64 x2.fn, .slice a2_2 x2.val.length c2_2] 26)
    rw [size_allocD] at h
    exact h
  clear l1_ r1_ l2_2 r2_2 l0_1 l0_2 l0_3 l0_4 l0_5 l2_1
  have x0_0 := cell_at (o := 0) A0.out.2.1 rfl
  have x0_1 := cell_at (o := 1) A0.out.2.1 rfl
  have x0_2 := cell_at (o := 2) A0.out.2.1 rfl
  have x0_3 := cell_at (o := 3) A0.out.2.1 rfl
  have x0_4 := cell_at (o := 4) A0.out.2.1 rfl
  have x0_5 := cell_at (o := 5) A0.out.2.1 rfl
  have x0_6 := cell_at (o := 6) A0.out.2.1 rfl
  have x0_7 := cell_at (o := 7) A0.out.2.1 rfl
  have x2_0 := cell_at (o := 0) A0.out.2.2 rfl
  have x2_1 := cell_at (o := 1) A0.out.2.2 rfl
  have x2_2 := cell_at (o := 2) A0.out.2.2 rfl
  go_enter Try.func3, Try.ntmps3
  go_wp2_with fail
  have bl : Hid ((0 : Int) ≤ 1048576 ∧ (1048576 : Int) ≤ 1048576) := by show _ ∧ _; omega
  refine (szDColumn x0 1048576 (fun _ => True) _ bl.out.1 bl.out.2 HO0.out).mono ?_
  rintro e ws0 ⟨rfl, hB⟩
  have AS0 := Lib.hid (ALAT.out _ _ A0.out hB)
  clear hB A0 x0_0 x0_1 x0_2 x0_3 x0_4 x0_5 x0_6 x0_7 x2_0 x2_1 x2_2
  have x0_0 := cell_at (o := 0) AS0.out.2.1 rfl
  have x0_1 := cell_at (o := 1) AS0.out.2.1 rfl
  have x0_2 := cell_at (o := 2) AS0.out.2.1 rfl
  have x0_3 := cell_at (o := 3) AS0.out.2.1 rfl
  have x0_4 := cell_at (o := 4) AS0.out.2.1 rfl
  have x0_5 := cell_at (o := 5) AS0.out.2.1 rfl
  have x0_6 := cell_at (o := 6) AS0.out.2.1 rfl
  have x0_7 := cell_at (o := 7) AS0.out.2.1 rfl
  have x2_0 := cell_at (o := 0) AS0.out.2.2 rfl
  have x2_1 := cell_at (o := 1) AS0.out.2.2 rfl
  have x2_2 := cell_at (o := 2) AS0.out.2.2 rfl
  by_cases hz0 : (1048576 : Int) - (szT 8 (dColumn x0) : Int) < 0
  case pos =>
    rw [less_no hz0]
    go_wp2_with fail
    go_ret
    exact ⟨rfl, AS0.out.1⟩
  rw [less_yes (by omega)]
  obtain ⟨L0, hL0⟩ : ∃ L0 : Int, L0 = 1048576 - (szT 8 (dColumn x0) : Int) := ⟨_, rfl⟩
  rw [← hL0]
  have dL0 : decide (L0 < 0) = false := decide_eq_false (by omega)
  have HZ0 : Hid (szT 8 (dColumn x0) ≤ 1048576) := by have := bl.out; show _ ≤ _; omega
  have b2 : Hid (0 ≤ L0 ∧ L0 ≤ 1048576) := by have := bl.out; show _ ∧ _; omega
  clear hz0 hL0 bl
  have bl := b2
  clear b2
  go_wp2_with fail
  refine (szDAtomS x1 a1_ c1_ L0 _ _ bl.out.1 bl.out.2 HO1.out (RA1_.out _ AS0.out.1)).mono ?_
  rintro e ws1 ⟨rfl, hB⟩
  have AS1 := Lib.hid (ALAT.out _ _ AS0.out hB)
  clear hB AS0 x0_0 x0_1 x0_2 x0_3 x0_4 x0_5 x0_6 x0_7 x2_0 x2_1 x2_2
  have x0_0 := cell_at (o := 0) AS1.out.2.1 rfl
  have x0_1 := cell_at (o := 1) AS1.out.2.1 rfl
  have x0_2 := cell_at (o := 2) AS1.out.2.1 rfl
  have x0_3 := cell_at (o := 3) AS1.out.2.1 rfl
  have x0_4 := cell_at (o := 4) AS1.out.2.1 rfl
  have x0_5 := cell_at (o := 5) AS1.out.2.1 rfl
  have x0_6 := cell_at (o := 6) AS1.out.2.1 rfl
  have x0_7 := cell_at (o := 7) AS1.out.2.1 rfl
  have x2_0 := cell_at (o := 0) AS1.out.2.2 rfl
  have x2_1 := cell_at (o := 1) AS1.out.2.2 rfl
  have x2_2 := cell_at (o := 2) AS1.out.2.2 rfl
  by_cases hz1 : L0 - ((dAtomS x1).sz : Int) < 0
  case pos =>
    rw [less_no hz1]
    go_wp2_with fail
    go_ret
    exact ⟨rfl, AS1.out.1⟩
  rw [less_yes (by omega)]
  obtain ⟨L1, hL1⟩ : ∃ L1 : Int, L1 = L0 - ((dAtomS x1).sz : Int) := ⟨_, rfl⟩
  rw [← hL1]
  have dL1 : decide (L1 < 0) = false := decide_eq_false (by omega)
  have HZ1 : Hid ((dAtomS x1).sz ≤ 1048576) := by have := bl.out; show _ ≤ _; omega
  have b2 : Hid (0 ≤ L1 ∧ L1 ≤ 1048576) := by have := bl.out; show _ ∧ _; omega
  clear hz1 hL1 bl
  have bl := b2
  clear b2
  go_wp2_with fail
  refine (szDMut x2 a2_2 c2_2 L1 _ _ bl.out.1 bl.out.2 HO2.out (RA2_2.out _ AS1.out.1)).mono ?_
  rintro e ws2 ⟨rfl, hB⟩
  have AS2 := Lib.hid (ALAT.out _ _ AS1.out hB)
  clear hB AS1 x0_0 x0_1 x0_2 x0_3 x0_4 x0_5 x0_6 x0_7 x2_0 x2_1 x2_2
  have x0_0 := cell_at (o := 0) AS2.out.2.1 rfl
  have x0_1 := cell_at (o := 1) AS2.out.2.1 rfl
  have x0_2 := cell_at (o := 2) AS2.out.2.1 rfl
  have x0_3 := cell_at (o := 3) AS2.out.2.1 rfl
  have x0_4 := cell_at (o := 4) AS2.out.2.1 rfl
  have x0_5 := cell_at (o := 5) AS2.out.2.1 rfl
  have x0_6 := cell_at (o := 6) AS2.out.2.1 rfl
  have x0_7 := cell_at (o := 7) AS2.out.2.1 rfl
  have x2_0 := cell_at (o := 0) AS2.out.2.2 rfl
  have x2_1 := cell_at (o := 1) AS2.out.2.2 rfl
  have x2_2 := cell_at (o := 2) AS2.out.2.2 rfl
  by_cases hz2 : L1 - (szT 3 (dMut x2) : Int) < 0
  case pos =>
    rw [less_no hz2]
    go_wp2_with fail
    go_ret
    exact ⟨rfl, AS2.out.1⟩
  rw [less_yes (by omega)]
  obtain ⟨L2, hL2⟩ : ∃ L2 : Int, L2 = L1 - (szT 3 (dMut x2) : Int) := ⟨_, rfl⟩
  rw [← hL2]
  have dL2 : decide (L2 < 0) = false := decide_eq_false (by omega)
  have HZ2 : Hid (szT 3 (dMut x2) ≤ 1048576) := by have := bl.out; show _ ≤ _; omega
  have b2 : Hid (0 ≤ L2 ∧ L2 ≤ 1048576) := by have := bl.out; show _ ∧ _; omega
  clear hz2 hL2 bl
  have bl := b2
  clear b2
  go_upto_region 11 with fail
  have HK0 : Hid (∀ j, j < 8 → (dColumn x0 j).le 1048576) := fun j hj => D.le_of_sz _ (HO0.out j hj) (Nat.le_trans (sumN_le (g := fun j => (dColumn x0 j).sz) hj) HZ0.out)
  have HK1 : Hid ((dAtomS x1).le 1048576) := D.le_of_sz _ HO1.out HZ1.out
  have HK2 : Hid (∀ j, j < 3 → (dMut x2 j).le 1048576) := fun j hj => D.le_of_sz _ (HO2.out j hj) (Nat.le_trans (sumN_le (g := fun j => (dMut x2 j).sz) hj) HZ2.out)
  have TO0 : Hid (∀ W, (Below w.heap.size w W ∧ W.heap[w.heap.size]? = some (.cells #[.string ⟨x0.nm.toArray⟩, .int .i64 x0.k, .int .i64 x0.mn, .int .i64 x0.mx, .int .i64 x0.lo, .int .i64 x0.hi, .string ⟨x0.rf.toArray⟩, .bool x0.st] 23) ∧ W.heap[w.heap.size + 1]? = some (.cells #[.string ⟨x2.col.toArray⟩, .int .i64 x2.fn, .slice a2_2 x2.val.length c2_2] 26)) → Calls Try.prog 8 #[.agg #[.string ⟨x0.nm.toArray⟩, .int .i64 x0.k, .int .i64 x0.mn, .int .i64 x0.mx, .int .i64 x0.lo, .int .i64 x0.hi, .string ⟨x0.rf.toArray⟩, .bool x0.st]] W fun e w' => e = .returned (.agg #[.string ⟨x0.nm.toArray⟩, .int .i64 x0.k, .int .i64 x0.mn, .int .i64 x0.mx, .int .i64 x0.lo, .int .i64 x0.hi, .string ⟨x0.rf.toArray⟩, .bool x0.st]) ∧ Below W.heap.size W w' ∧ (Below w.heap.size w w' ∧ w'.heap[w.heap.size]? = some (.cells #[.string ⟨x0.nm.toArray⟩, .int .i64 x0.k, .int .i64 x0.mn, .int .i64 x0.mx, .int .i64 x0.lo, .int .i64 x0.hi, .string ⟨x0.rf.toArray⟩, .bool x0.st] 23) ∧ w'.heap[w.heap.size + 1]? = some (.cells #[.string ⟨x2.col.toArray⟩, .int .i64 x2.fn, .slice a2_2 x2.val.length c2_2] 26))) := fun W h => (toDColumn x0 (fun _ => True) W HK0.out).mono (fun e w' ⟨he, _, hB⟩ => ⟨he, hB, ALAT.out _ _ h hB⟩)
  have TO1 : Hid (∀ W, (Below w.heap.size w W ∧ W.heap[w.heap.size]? = some (.cells #[.string ⟨x0.nm.toArray⟩, .int .i64 x0.k, .int .i64 x0.mn, .int .i64 x0.mx, .int .i64 x0.lo, .int .i64 x0.hi, .string ⟨x0.rf.toArray⟩, .bool x0.st] 23) ∧ W.heap[w.heap.size + 1]? = some (.cells #[.string ⟨x2.col.toArray⟩, .int .i64 x2.fn, .slice a2_2 x2.val.length c2_2] 26)) → Calls Try.prog 9 #[.slice a1_ x1.length c1_] W fun e w' => ∃ p : Nat, e = .returned (.slice (some ⟨p, 0, none⟩) x1.length x1.length) ∧ Own w' (dAtomS x1) (fun c => W.heap.size ≤ c ∧ c < w'.heap.size) (.slice (some ⟨p, 0, none⟩) x1.length x1.length) ∧ Below W.heap.size W w' ∧ (Below w.heap.size w w' ∧ w'.heap[w.heap.size]? = some (.cells #[.string ⟨x0.nm.toArray⟩, .int .i64 x0.k, .int .i64 x0.mn, .int .i64 x0.mx, .int .i64 x0.lo, .int .i64 x0.hi, .string ⟨x0.rf.toArray⟩, .bool x0.st] 23) ∧ w'.heap[w.heap.size + 1]? = some (.cells #[.string ⟨x2.col.toArray⟩, .int .i64 x2.fn, .slice a2_2 x2.val.length c2_2] 26))) := fun W h => (toDAtomS x1 a1_ c1_ _ W HK1.out (RA1_.out W h.1)).mono (fun e w' ⟨he, ho, hB⟩ => ⟨_, he, ho, hB, ALAT.out _ _ h hB⟩)
  have TO2 : Hid (∀ W, (Below w.heap.size w W ∧ W.heap[w.heap.size]? = some (.cells #[.string ⟨x0.nm.toArray⟩, .int .i64 x0.k, .int .i64 x0.mn, .int .i64 x0.mx, .int .i64 x0.lo, .int .i64 x0.hi, .string ⟨x0.rf.toArray⟩, .bool x0.st] 23) ∧ W.heap[w.heap.size + 1]? = some (.cells #[.string ⟨x2.col.toArray⟩, .int .i64 x2.fn, .slice a2_2 x2.val.length c2_2] 26)) → Calls Try.prog 10 #[.agg #[.string ⟨x2.col.toArray⟩, .int .i64 x2.fn, .slice a2_2 x2.val.length c2_2]] W fun e w' => ∃ p2 : Nat, e = .returned (.agg #[.string ⟨x2.col.toArray⟩, .int .i64 x2.fn, .slice (some ⟨p2, 0, none⟩) x2.val.length x2.val.length]) ∧ Owns w' 3 (dMut x2) (vat [.string ⟨x2.col.toArray⟩, .int .i64 x2.fn, .slice (some ⟨p2, 0, none⟩) x2.val.length x2.val.length]) (fun c => W.heap.size ≤ c ∧ c < w'.heap.size) ∧ Below W.heap.size W w' ∧ (Below w.heap.size w w' ∧ w'.heap[w.heap.size]? = some (.cells #[.string ⟨x0.nm.toArray⟩, .int .i64 x0.k, .int .i64 x0.mn, .int .i64 x0.mx, .int .i64 x0.lo, .int .i64 x0.hi, .string ⟨x0.rf.toArray⟩, .bool x0.st] 23) ∧ w'.heap[w.heap.size + 1]? = some (.cells #[.string ⟨x2.col.toArray⟩, .int .i64 x2.fn, .slice a2_2 x2.val.length c2_2] 26))) := fun W h => (toDMut x2 a2_2 c2_2 _ W HK2.out (RA2_2.out W h.1)).mono (fun e w' ⟨p2, he, ho, hB⟩ => ⟨p2, he, ho, hB, ALAT.out _ _ h hB⟩)
  obtain ⟨R0, hR0⟩ : ∃ r, r = mtL x0 x1 x2 := ⟨_, rfl⟩
  obtain ⟨R1, hR1⟩ : ∃ r, r = mtC x0 x1 x2 := ⟨_, rfl⟩
  have CS : Hid (∀ (W : World) (b1_ : Option Addr) (e1_ : Nat) (b2_2 : Option Addr) (e2_2 : Nat), Rd W (fun _ => True) (dAtomS x1) (.slice b1_ x1.length e1_) → Rd W (fun _ => True) (dAtomS x2.val) (.slice b2_2 x2.val.length e2_2) → Calls Try.prog 7 #[.agg #[.string ⟨x0.nm.toArray⟩, .int .i64 x0.k, .int .i64 x0.mn, .int .i64 x0.mx, .int .i64 x0.lo, .int .i64 x0.hi, .string ⟨x0.rf.toArray⟩, .bool x0.st], .slice b1_ x1.length e1_, .agg #[.string ⟨x2.col.toArray⟩, .int .i64 x2.fn, .slice b2_2 x2.val.length e2_2]] W fun e w' => ∃ (ra : Option Addr) (rc : Nat), e = .returned (.tuple #[.slice ra R0.length rc, .int .i64 R1]) ∧ Rd w' (fun c => W.heap.size ≤ c ∧ c < w'.heap.size) (dAtomS R0) (.slice ra R0.length rc) ∧ Below W.heap.size W w') := fun W b1_ e1_ b2_2 e2_2 h1_ h2_2 => by rw [hR0, hR1]; exact mtSd x0 x1 x2 b1_ e1_ b2_2 e2_2 W.heap.size W ⟨HO0.out 0 (by omega), HO0.out 6 (by omega)⟩ (le_atoms HO1.out).1 (le_atoms HO1.out).2 (HO2.out 0 (by omega)) (le_atoms HL2_2.out).1 (le_atoms HL2_2.out).2 (Nat.le_refl _) h1_.lt.ats h2_2.lt.ats
  have CI : Hid (∀ (W : World) (b1_ : Option Addr) (e1_ : Nat) (b2_2 : Option Addr) (e2_2 : Nat), Rd W (fun _ => True) (dAtomS x1) (.slice b1_ x1.length e1_) → Rd W (fun _ => True) (dAtomS x2.val) (.slice b2_2 x2.val.length e2_2) → Calls Try.prog 11 #[.agg #[.string ⟨x0.nm.toArray⟩, .int .i64 x0.k, .int .i64 x0.mn, .int .i64 x0.mx, .int .i64 x0.lo, .int .i64 x0.hi, .string ⟨x0.rf.toArray⟩, .bool x0.st], .slice b1_ x1.length e1_, .agg #[.string ⟨x2.col.toArray⟩, .int .i64 x2.fn, .slice b2_2 x2.val.length e2_2]] W fun e w' => ∃ (ra : Option Addr) (rc : Nat), e = .returned (.tuple #[.slice ra R0.length rc, .int .i64 R1]) ∧ Own w' (dAtomS R0) (fun c => W.heap.size ≤ c ∧ c < w'.heap.size) (.slice ra R0.length rc) ∧ Below W.heap.size W w') := fun W b1_ e1_ b2_2 e2_2 h1_ h2_2 => by rw [hR0, hR1]; exact mtId x0 x1 x2 b1_ e1_ b2_2 e2_2 W.heap.size W ⟨HO0.out 0 (by omega), HO0.out 6 (by omega)⟩ (le_atoms HO1.out).1 (le_atoms HO1.out).2 (HO2.out 0 (by omega)) (le_atoms HL2_2.out).1 (le_atoms HL2_2.out).2 (Nat.le_refl _) h1_.lt.ats h2_2.lt.ats
  have HRB : Hid ((dAtomS R0).le maxLen ∧ (dAtomS R0).sz ≤ 100000000) := by rw [hR0]; exact mt_le
  have HRW : Hid (1 + (dAtomS R0).wd < 100000000000) := by have h1 := D.wd_le (dAtomS R0) (HRB.out.1); have h2 := HRB.out.2; show _ < _; omega
  have nq1 : (R1 != R1) = false := by simp
  clear hR0 hR1
  have EQ1 : Hid (∀ (W : World) (b : Option Addr) (e : Nat) (f : Option Addr) (g : Nat), Rd W (fun _ => True) (dAtomS x1) (.slice b x1.length e) → Rd W (fun _ => True) (dAtomS x1) (.slice f x1.length g) → Calls Try.prog 12 #[.slice b x1.length e, .slice f x1.length g] W fun e w' => e = .returned (.bool true) ∧ Below W.heap.size W w') := fun W b e f g h i => eqDAtomS x1 b e f g _ _ W HO1.out h i
  have EQ2 : Hid (∀ (W : World) (b2 : Option Addr) (e2 : Nat) (f2 : Option Addr) (g2 : Nat), Rd W (fun _ => True) (dAtomS x2.val) (.slice b2 x2.val.length e2) → Rd W (fun _ => True) (dAtomS x2.val) (.slice f2 x2.val.length g2) → Calls Try.prog 13 #[.agg #[.string ⟨x2.col.toArray⟩, .int .i64 x2.fn, .slice b2 x2.val.length e2], .agg #[.string ⟨x2.col.toArray⟩, .int .i64 x2.fn, .slice f2 x2.val.length g2]] W fun e w' => e = .returned (.bool true) ∧ Below W.heap.size W w') := fun W b2 e2 f2 g2 h2 i2 => eqDMut x2 b2 e2 f2 g2 _ _ W HO2.out h2 i2
  have EQR : Hid (∀ (W : World) (b : Option Addr) (e : Nat) (f : Option Addr) (g : Nat), Rd W (fun _ => True) (dAtomS R0) (.slice b R0.length e) → Rd W (fun _ => True) (dAtomS R0) (.slice f R0.length g) → Calls Try.prog 12 #[.slice b R0.length e, .slice f R0.length g] W fun e w' => e = .returned (.bool true) ∧ Below W.heap.size W w') := fun W b e f g h i => eqDAtomS R0 b e f g _ _ W HRB.out.1 h i
  have HST : Hid (∀ W, Below ws2.heap.size ws2 W → (Below w.heap.size w W ∧ W.heap[w.heap.size]? = some (.cells #[.string ⟨x0.nm.toArray⟩, .int .i64 x0.k, .int .i64 x0.mn, .int .i64 x0.mx, .int .i64 x0.lo, .int .i64 x0.hi, .string ⟨x0.rf.toArray⟩, .bool x0.st] 23) ∧ W.heap[w.heap.size + 1]? = some (.cells #[.string ⟨x2.col.toArray⟩, .int .i64 x2.fn, .slice a2_2 x2.val.length c2_2] 26))) := fun W h => ALAT.out _ _ AS2.out h
  have CE : Hid (∀ W, (Below w.heap.size w W ∧ W.heap[w.heap.size]? = some (.cells #[.string ⟨x0.nm.toArray⟩, .int .i64 x0.k, .int .i64 x0.mn, .int .i64 x0.mx, .int .i64 x0.lo, .int .i64 x0.hi, .string ⟨x0.rf.toArray⟩, .bool x0.st] 23) ∧ W.heap[w.heap.size + 1]? = some (.cells #[.string ⟨x2.col.toArray⟩, .int .i64 x2.fn, .slice a2_2 x2.val.length c2_2] 26)) → (W.cell? ⟨w.heap.size, 0, none⟩ = some (.string ⟨x0.nm.toArray⟩) ∧ W.cell? ⟨w.heap.size, 1, none⟩ = some (.int .i64 x0.k) ∧ W.cell? ⟨w.heap.size, 2, none⟩ = some (.int .i64 x0.mn) ∧ W.cell? ⟨w.heap.size, 3, none⟩ = some (.int .i64 x0.mx) ∧ W.cell? ⟨w.heap.size, 4, none⟩ = some (.int .i64 x0.lo) ∧ W.cell? ⟨w.heap.size, 5, none⟩ = some (.int .i64 x0.hi) ∧ W.cell? ⟨w.heap.size, 6, none⟩ = some (.string ⟨x0.rf.toArray⟩) ∧ W.cell? ⟨w.heap.size, 7, none⟩ = some (.bool x0.st) ∧ W.cell? ⟨w.heap.size + 1, 0, none⟩ = some (.string ⟨x2.col.toArray⟩) ∧ W.cell? ⟨w.heap.size + 1, 1, none⟩ = some (.int .i64 x2.fn) ∧ W.cell? ⟨w.heap.size + 1, 2, none⟩ = some (.slice a2_2 x2.val.length c2_2))) := fun W h => ⟨cell_at (o := 0) h.2.1 rfl, cell_at (o := 1) h.2.1 rfl, cell_at (o := 2) h.2.1 rfl, cell_at (o := 3) h.2.1 rfl, cell_at (o := 4) h.2.1 rfl, cell_at (o := 5) h.2.1 rfl, cell_at (o := 6) h.2.1 rfl, cell_at (o := 7) h.2.1 rfl, cell_at (o := 0) h.2.2 rfl, cell_at (o := 1) h.2.2 rfl, cell_at (o := 2) h.2.2 rfl⟩
  have HSX : Hid (∀ W, (Below w.heap.size w W ∧ W.heap[w.heap.size]? = some (.cells #[.string ⟨x0.nm.toArray⟩, .int .i64 x0.k, .int .i64 x0.mn, .int .i64 x0.mx, .int .i64 x0.lo, .int .i64 x0.hi, .string ⟨x0.rf.toArray⟩, .bool x0.st] 23) ∧ W.heap[w.heap.size + 1]? = some (.cells #[.string ⟨x2.col.toArray⟩, .int .i64 x2.fn, .slice a2_2 x2.val.length c2_2] 26)) → (Below w.heap.size w W ∧ W.heap[w.heap.size]? = some (.cells #[.string ⟨x0.nm.toArray⟩, .int .i64 x0.k, .int .i64 x0.mn, .int .i64 x0.mx, .int .i64 x0.lo, .int .i64 x0.hi, .string ⟨x0.rf.toArray⟩, .bool x0.st] 23) ∧ W.heap[w.heap.size + 1]? = some (.cells #[.string ⟨x2.col.toArray⟩, .int .i64 x2.fn, .slice a2_2 x2.val.length c2_2] 26))) := fun W h => ⟨h.1, h.2.1, h.2.2⟩
  clear AS2 x0_0 x0_1 x0_2 x0_3 x0_4 x0_5 x0_6 x0_7 x2_0 x2_1 x2_2
  go_cut [8, 9] from 34 to 43 (fun s0 s1 wx => ∃ (ra : Option Addr) (rc : Nat), s0 = .slice ra R0.length rc ∧ s1 = .int .i64 R1 ∧ Hid ((Below w.heap.size w wx ∧ wx.heap[w.heap.size]? = some (.cells #[.string ⟨x0.nm.toArray⟩, .int .i64 x0.k, .int .i64 x0.mn, .int .i64 x0.mx, .int .i64 x0.lo, .int .i64 x0.hi, .string ⟨x0.rf.toArray⟩, .bool x0.st] 23) ∧ wx.heap[w.heap.size + 1]? = some (.cells #[.string ⟨x2.col.toArray⟩, .int .i64 x2.fn, .slice a2_2 x2.val.length c2_2] 26) ∧ Rd wx (· < wx.heap.size) (dAtomS R0) (.slice ra R0.length rc)) ∧ w.heap.size + 2 ≤ wx.heap.size))
  case first =>
    have BS : Hid (Below ws2.heap.size ws2 ws2) := Below.refl _ _
    refine wp_region_held_drew (S := (fun W => W.cell? ⟨w.heap.size, 0, none⟩ = some (.string ⟨x0.nm.toArray⟩) ∧ W.cell? ⟨w.heap.size, 1, none⟩ = some (.int .i64 x0.k) ∧ W.cell? ⟨w.heap.size, 2, none⟩ = some (.int .i64 x0.mn) ∧ W.cell? ⟨w.heap.size, 3, none⟩ = some (.int .i64 x0.mx) ∧ W.cell? ⟨w.heap.size, 4, none⟩ = some (.int .i64 x0.lo) ∧ W.cell? ⟨w.heap.size, 5, none⟩ = some (.int .i64 x0.hi) ∧ W.cell? ⟨w.heap.size, 6, none⟩ = some (.string ⟨x0.rf.toArray⟩) ∧ W.cell? ⟨w.heap.size, 7, none⟩ = some (.bool x0.st) ∧ W.cell? ⟨w.heap.size + 1, 0, none⟩ = some (.string ⟨x2.col.toArray⟩) ∧ W.cell? ⟨w.heap.size + 1, 1, none⟩ = some (.int .i64 x2.fn) ∧ W.cell? ⟨w.heap.size + 1, 2, none⟩ = some (.slice a2_2 x2.val.length c2_2))) (by kernel_rfl) ?_ (fun hHeld => ?_)
    · (first | exact CE.out _ (HST.out _ BS.out) | exact CE.out _ (HST.out _ BS.out.drew))
    refine wpAnyH_take (i := 0) (v := ?_) rfl (by kernel_rfl) (by kernel_rfl) (by kernel_rfl) (fun _ _ _ h => h) (Or.inl ⟨by kernel_rfl, ?_⟩) (by assumption) ?_
    rotate_left
    · (intro wS hSw; (try dsimp only at hSw); go_simp <;> with_reducible rfl)
    try simp only [Act.put, tkS]
    refine wpAnyH_take (i := 2) (v := ?_) rfl (by kernel_rfl) (by kernel_rfl) (by kernel_rfl) (fun _ _ _ h => h) (Or.inl ⟨by kernel_rfl, ?_⟩) (by assumption) ?_
    rotate_left
    · (intro wS hSw; (try dsimp only at hSw); go_simp <;> with_reducible rfl)
    try simp only [Act.put, tkS]
    refine wpAnyH_take (i := 4) (v := ?_) rfl (by kernel_rfl) (by kernel_rfl) (by kernel_rfl) (fun _ _ _ h => h) (Or.inl ⟨by kernel_rfl, ?_⟩) (by assumption) ?_
    rotate_left
    · (intro wS hSw; (try dsimp only at hSw); go_simp <;> with_reducible rfl)
    try simp only [Act.put, tkS]
    refine wpAnyH_ready (rs := [1]) (by kernel_rfl) (by simp) (AllReadyH.cons rfl (fun K hK => ?_) AllReadyH.nil)
    go_simp
    go_at_call 8
    refine (TO0.out _ (by first | exact HSX.out _ (HST.out _ BS.out) | exact HSX.out _ (HST.out _ BS.out.drew))).mono ?_
    rintro e wt0 ⟨rfl, hB, -⟩
    have hb : Below ws2.heap.size ws2 wt0 := by first | exact hB | exact (Below.refl _ _).drew.trans hB
    have BS' : Hid (Below ws2.heap.size ws2 wt0) := BS.out.trans (hb.mono BS.out.size)
    clear BS
    have BS := BS'
    clear BS'
    have BC0 : Hid (Below wt0.heap.size wt0 wt0) := Below.refl _ _
    clear hb hB
    refine hK.out _ _ ?_ (fun hHeld => ?_)
    · (first | exact CE.out _ (HST.out _ BS.out) | exact CE.out _ (HST.out _ BS.out.drew))
    clear hK K
    try simp only [Act.put, tkS]
    refine wpAnyH_ready (rs := [3]) (by kernel_rfl) (by simp) (AllReadyH.cons rfl (fun K hK => ?_) AllReadyH.nil)
    go_simp
    go_at_call 9
    refine (TO1.out _ (by first | exact HSX.out _ (HST.out _ BS.out) | exact HSX.out _ (HST.out _ BS.out.drew))).mono ?_
    rintro e wt1 ⟨p1_, rfl, ho, hB, -⟩
    have hb : Below wt0.heap.size wt0 wt1 := by first | exact hB | exact (Below.refl _ _).drew.trans hB
    have BS' : Hid (Below ws2.heap.size ws2 wt1) := BS.out.trans (hb.mono BS.out.size)
    clear BS
    have BS := BS'
    clear BS'
    have BC0' : Hid (Below wt0.heap.size wt0 wt1) := BC0.out.trans (hb.mono BC0.out.size)
    clear BC0
    have BC0 := BC0'
    clear BC0'
    have RC1_ : Hid (∀ W, Below wt1.heap.size wt1 W → Rd W (fun _ => True) (dAtomS x1) (.slice (some ⟨p1_, 0, none⟩) x1.length x1.length)) := fun W h => Rd.later (ho.rd'.any) h
    have BC1 : Hid (Below wt1.heap.size wt1 wt1) := Below.refl _ _
    clear hb hB ho
    refine hK.out _ _ ?_ (fun hHeld => ?_)
    · (first | exact CE.out _ (HST.out _ BS.out) | exact CE.out _ (HST.out _ BS.out.drew))
    clear hK K
    try simp only [Act.put, tkS]
    refine wpAnyH_ready (rs := [5]) (by kernel_rfl) (by simp) (AllReadyH.cons rfl (fun K hK => ?_) AllReadyH.nil)
    go_simp
    go_at_call 10
    refine (TO2.out _ (by first | exact HSX.out _ (HST.out _ BS.out) | exact HSX.out _ (HST.out _ BS.out.drew))).mono ?_
    rintro e wt2 ⟨p2_2, rfl, ho, hB, -⟩
    have hb : Below wt1.heap.size wt1 wt2 := by first | exact hB | exact (Below.refl _ _).drew.trans hB
    have BS' : Hid (Below ws2.heap.size ws2 wt2) := BS.out.trans (hb.mono BS.out.size)
    clear BS
    have BS := BS'
    clear BS'
    have BC0' : Hid (Below wt0.heap.size wt0 wt2) := BC0.out.trans (hb.mono BC0.out.size)
    clear BC0
    have BC0 := BC0'
    clear BC0'
    have BC1' : Hid (Below wt1.heap.size wt1 wt2) := BC1.out.trans (hb.mono BC1.out.size)
    clear BC1
    have BC1 := BC1'
    clear BC1'
    have RC2_2 : Hid (∀ W, Below wt2.heap.size wt2 W → Rd W (fun _ => True) (dAtomS x2.val) (.slice (some ⟨p2_2, 0, none⟩) x2.val.length x2.val.length)) := fun W h => Rd.later ((Owns.one ho (j := 2) (by omega)).rd'.any) h
    have BC2 : Hid (Below wt2.heap.size wt2 wt2) := Below.refl _ _
    clear hb hB ho
    refine hK.out _ _ ?_ (fun hHeld => ?_)
    · (first | exact CE.out _ (HST.out _ BS.out) | exact CE.out _ (HST.out _ BS.out.drew))
    clear hK K
    try simp only [Act.put, tkS]
    refine wpAnyH_ready (rs := [6]) (by kernel_rfl) (by simp) (AllReadyH.cons rfl (fun K hK => ?_) AllReadyH.nil)
    go_simp
    go_at_call 7
    refine (CS.out _ _ _ _ _ (by first | exact RC1_.out _ BC1.out | exact RC1_.out _ BC1.out.drew) (by first | exact RC2_2.out _ BC2.out | exact RC2_2.out _ BC2.out.drew)).mono ?_
    rintro e w2 ⟨ra, rc, rfl, hr2, hB⟩
    have hb : Below wt2.heap.size wt2 w2 := by first | exact hB | exact (Below.refl _ _).drew.trans hB
    have BS' : Hid (Below ws2.heap.size ws2 w2) := BS.out.trans (hb.mono BS.out.size)
    clear BS
    have BS := BS'
    clear BS'
    have BC0' : Hid (Below wt0.heap.size wt0 w2) := BC0.out.trans (hb.mono BC0.out.size)
    clear BC0
    have BC0 := BC0'
    clear BC0'
    have BC1' : Hid (Below wt1.heap.size wt1 w2) := BC1.out.trans (hb.mono BC1.out.size)
    clear BC1
    have BC1 := BC1'
    clear BC1'
    have BC2' : Hid (Below wt2.heap.size wt2 w2) := BC2.out.trans (hb.mono BC2.out.size)
    clear BC2
    have BC2 := BC2'
    clear BC2'
    have HR2 : Hid (Rd w2 (fun b => wt2.heap.size ≤ b ∧ b < w2.heap.size) (dAtomS R0) (.slice ra R0.length rc)) := by first | exact hr2 | (simpa using hr2)
    clear hb hB hr2
    refine hK.out _ _ ?_ (fun hHeld => ?_)
    · (first | exact CE.out _ (HST.out _ BS.out) | exact CE.out _ (HST.out _ BS.out.drew))
    clear hK K
    try simp only [Act.put, tkS]
    refine wpAnyH_take (i := 7) (v := ?_) rfl (by kernel_rfl) (by kernel_rfl) (by kernel_rfl) (fun _ _ _ h => h) (Or.inl ⟨by kernel_rfl, ?_⟩) (by assumption) ?_
    rotate_left
    · (intro wS hSw; (try dsimp only at hSw); go_simp <;> with_reducible rfl)
    try simp only [Act.put, tkS]
    refine wpAnyH_take (i := 8) (v := ?_) rfl (by kernel_rfl) (by kernel_rfl) (by kernel_rfl) (fun _ _ _ h => h) (Or.inl ⟨by kernel_rfl, ?_⟩) (by assumption) ?_
    rotate_left
    · (intro wS hSw; (try dsimp only at hSw); go_simp <;> with_reducible rfl)
    try simp only [Act.put, tkS]
    refine wpAnyH_take (i := 9) (v := ?_) rfl (by kernel_rfl) (by kernel_rfl) (by kernel_rfl) (fun _ _ _ h => h) (Or.inl ⟨by kernel_rfl, ?_⟩) (by assumption) ?_
    rotate_left
    · (intro wS hSw; (try dsimp only at hSw); go_simp <;> with_reducible rfl)
    try simp only [Act.put, tkS]
    refine wpAnyH_take (i := 10) (v := ?_) rfl (by kernel_rfl) (by kernel_rfl) (by kernel_rfl) (fun _ _ _ h => h) (Or.inl ⟨by kernel_rfl, ?_⟩) (by assumption) ?_
    rotate_left
    · (intro wS hSw; (try dsimp only at hSw); go_simp <;> with_reducible rfl)
    try simp only [Act.put, tkS]
    refine wpAnyH_take (i := 11) (v := ?_) rfl (by kernel_rfl) (by kernel_rfl) (by kernel_rfl) (fun _ _ _ h => h) (Or.inl ⟨by kernel_rfl, ?_⟩) (by assumption) ?_
    rotate_left
    · (intro wS hSw; (try dsimp only at hSw); go_simp <;> with_reducible rfl)
    try simp only [Act.put, tkS]
    refine wpAnyH_done (by kernel_rfl) ?_ _
    have HF := Lib.hid (HST.out _ BS.out)
    go_wp2_with fail
    go_meet
    refine ⟨ra, rc, rfl, rfl, ⟨HF.out.1, HF.out.2.1, HF.out.2.2, HR2.out.mono (fun b hb => hb.2)⟩, by have h := (Array.getElem?_eq_some_iff.1 HF.out.2.2).1; omega⟩
  clear HST CE HSX
  obtain ⟨ra, rc, rfl, rfl, HCUT⟩ := hcut
  have M0 : Hid (Below w.heap.size w wc ∧ wc.heap[w.heap.size]? = some (.cells #[.string ⟨x0.nm.toArray⟩, .int .i64 x0.k, .int .i64 x0.mn, .int .i64 x0.mx, .int .i64 x0.lo, .int .i64 x0.hi, .string ⟨x0.rf.toArray⟩, .bool x0.st] 23) ∧ wc.heap[w.heap.size + 1]? = some (.cells #[.string ⟨x2.col.toArray⟩, .int .i64 x2.fn, .slice a2_2 x2.val.length c2_2] 26) ∧ Rd wc (· < wc.heap.size) (dAtomS R0) (.slice ra R0.length rc)) := HCUT.out.1
  have O0 : Hid (w.heap.size + 2 ≤ wc.heap.size) := HCUT.out.2
  clear HCUT
  have S0L : Hid (∀ W W', (Below w.heap.size w W ∧ W.heap[w.heap.size]? = some (.cells #[.string ⟨x0.nm.toArray⟩, .int .i64 x0.k, .int .i64 x0.mn, .int .i64 x0.mx, .int .i64 x0.lo, .int .i64 x0.hi, .string ⟨x0.rf.toArray⟩, .bool x0.st] 23) ∧ W.heap[w.heap.size + 1]? = some (.cells #[.string ⟨x2.col.toArray⟩, .int .i64 x2.fn, .slice a2_2 x2.val.length c2_2] 26) ∧ Rd W (· < wc.heap.size) (dAtomS R0) (.slice ra R0.length rc)) → Below W.heap.size W W' → (Below w.heap.size w W' ∧ W'.heap[w.heap.size]? = some (.cells #[.string ⟨x0.nm.toArray⟩, .int .i64 x0.k, .int .i64 x0.mn, .int .i64 x0.mx, .int .i64 x0.lo, .int .i64 x0.hi, .string ⟨x0.rf.toArray⟩, .bool x0.st] 23) ∧ W'.heap[w.heap.size + 1]? = some (.cells #[.string ⟨x2.col.toArray⟩, .int .i64 x2.fn, .slice a2_2 x2.val.length c2_2] 26) ∧ Rd W' (· < wc.heap.size) (dAtomS R0) (.slice ra R0.length rc))) := fun W W' h hB => ⟨h.1.trans (hB.mono h.1.size), heap_keptD h.2.1 hB, heap_keptD h.2.2.1 hB, h.2.2.2.later hB⟩
  have f_arg0_0 := cell_at (o := 0) M0.out.2.1 rfl
  have f_arg0_1 := cell_at (o := 1) M0.out.2.1 rfl
  have f_arg0_2 := cell_at (o := 2) M0.out.2.1 rfl
  have f_arg0_3 := cell_at (o := 3) M0.out.2.1 rfl
  have f_arg0_4 := cell_at (o := 4) M0.out.2.1 rfl
  have f_arg0_5 := cell_at (o := 5) M0.out.2.1 rfl
  have f_arg0_6 := cell_at (o := 6) M0.out.2.1 rfl
  have f_arg0_7 := cell_at (o := 7) M0.out.2.1 rfl
  have f_arg2_0 := cell_at (o := 0) M0.out.2.2.1 rfl
  have f_arg2_1 := cell_at (o := 1) M0.out.2.2.1 rfl
  have f_arg2_2 := cell_at (o := 2) M0.out.2.2.1 rfl
  go_wp2_with fail
  refine (TO1.out _ ⟨M0.out.1, M0.out.2.1, M0.out.2.2.1⟩).mono ?_
  rintro e wx1 ⟨p1_, rfl, ho, hB, -⟩
  have hm := S0L.out _ _ M0.out hB
  obtain ⟨u1, hu1⟩ : ∃ u, u = wc.heap.size := ⟨_, rfl⟩
  have U1 : Hid (wc.heap.size ≤ u1 ∧ u1 ≤ wx1.heap.size) := by refine ⟨by first | omega | (rw [hu1]), by rw [hu1]; exact hB.size⟩
  rw [← hu1] at ho
  have S2L : Hid (∀ W W', (Below w.heap.size w W ∧ W.heap[w.heap.size]? = some (.cells #[.string ⟨x0.nm.toArray⟩, .int .i64 x0.k, .int .i64 x0.mn, .int .i64 x0.mx, .int .i64 x0.lo, .int .i64 x0.hi, .string ⟨x0.rf.toArray⟩, .bool x0.st] 23) ∧ W.heap[w.heap.size + 1]? = some (.cells #[.string ⟨x2.col.toArray⟩, .int .i64 x2.fn, .slice a2_2 x2.val.length c2_2] 26) ∧ Rd W (· < wc.heap.size) (dAtomS R0) (.slice ra R0.length rc) ∧ Own W (dAtomS x1) (fun c => u1 ≤ c ∧ c < wx1.heap.size) (.slice (some ⟨p1_, 0, none⟩) x1.length x1.length)) → Below W.heap.size W W' → (Below w.heap.size w W' ∧ W'.heap[w.heap.size]? = some (.cells #[.string ⟨x0.nm.toArray⟩, .int .i64 x0.k, .int .i64 x0.mn, .int .i64 x0.mx, .int .i64 x0.lo, .int .i64 x0.hi, .string ⟨x0.rf.toArray⟩, .bool x0.st] 23) ∧ W'.heap[w.heap.size + 1]? = some (.cells #[.string ⟨x2.col.toArray⟩, .int .i64 x2.fn, .slice a2_2 x2.val.length c2_2] 26) ∧ Rd W' (· < wc.heap.size) (dAtomS R0) (.slice ra R0.length rc) ∧ Own W' (dAtomS x1) (fun c => u1 ≤ c ∧ c < wx1.heap.size) (.slice (some ⟨p1_, 0, none⟩) x1.length x1.length))) := fun W W' h hB => ⟨h.1.trans (hB.mono h.1.size), heap_keptD h.2.1 hB, heap_keptD h.2.2.1 hB, h.2.2.2.1.later hB, h.2.2.2.2.later hB⟩
  have M2 : Hid (Below w.heap.size w wx1 ∧ wx1.heap[w.heap.size]? = some (.cells #[.string ⟨x0.nm.toArray⟩, .int .i64 x0.k, .int .i64 x0.mn, .int .i64 x0.mx, .int .i64 x0.lo, .int .i64 x0.hi, .string ⟨x0.rf.toArray⟩, .bool x0.st] 23) ∧ wx1.heap[w.heap.size + 1]? = some (.cells #[.string ⟨x2.col.toArray⟩, .int .i64 x2.fn, .slice a2_2 x2.val.length c2_2] 26) ∧ Rd wx1 (· < wc.heap.size) (dAtomS R0) (.slice ra R0.length rc) ∧ Own wx1 (dAtomS x1) (fun c => u1 ≤ c ∧ c < wx1.heap.size) (.slice (some ⟨p1_, 0, none⟩) x1.length x1.length)) := ⟨hm.1.trans ((Below.refl _ _).mono hm.1.size), heap_keptD hm.2.1 (Below.refl _ _), heap_keptD hm.2.2.1 (Below.refl _ _), hm.2.2.2.later (Below.refl _ _), ho.later (Below.refl _ _)⟩
  clear f_arg0_0 f_arg0_1 f_arg0_2 f_arg0_3 f_arg0_4 f_arg0_5 f_arg0_6 f_arg0_7 f_arg2_0 f_arg2_1 f_arg2_2
  clear hm hB ho hu1 M0
  have f_arg0_0 := cell_at (o := 0) M2.out.2.1 rfl
  have f_arg0_1 := cell_at (o := 1) M2.out.2.1 rfl
  have f_arg0_2 := cell_at (o := 2) M2.out.2.1 rfl
  have f_arg0_3 := cell_at (o := 3) M2.out.2.1 rfl
  have f_arg0_4 := cell_at (o := 4) M2.out.2.1 rfl
  have f_arg0_5 := cell_at (o := 5) M2.out.2.1 rfl
  have f_arg0_6 := cell_at (o := 6) M2.out.2.1 rfl
  have f_arg0_7 := cell_at (o := 7) M2.out.2.1 rfl
  have f_arg2_0 := cell_at (o := 0) M2.out.2.2.1 rfl
  have f_arg2_1 := cell_at (o := 1) M2.out.2.2.1 rfl
  have f_arg2_2 := cell_at (o := 2) M2.out.2.2.1 rfl
  go_wp2_with fail
  refine (TO2.out _ ⟨M2.out.1, M2.out.2.1, M2.out.2.2.1⟩).mono ?_
  rintro e wx2 ⟨p2_2, rfl, ho, hB, -⟩
  have hm := S2L.out _ _ M2.out hB
  obtain ⟨u2, hu2⟩ : ∃ u, u = wx1.heap.size := ⟨_, rfl⟩
  have U2 : Hid (wx1.heap.size ≤ u2 ∧ u2 ≤ wx2.heap.size) := by refine ⟨by first | omega | (rw [hu2]), by rw [hu2]; exact hB.size⟩
  rw [← hu2] at ho
  have S3L : Hid (∀ W W', (Below w.heap.size w W ∧ W.heap[w.heap.size]? = some (.cells #[.string ⟨x0.nm.toArray⟩, .int .i64 x0.k, .int .i64 x0.mn, .int .i64 x0.mx, .int .i64 x0.lo, .int .i64 x0.hi, .string ⟨x0.rf.toArray⟩, .bool x0.st] 23) ∧ W.heap[w.heap.size + 1]? = some (.cells #[.string ⟨x2.col.toArray⟩, .int .i64 x2.fn, .slice a2_2 x2.val.length c2_2] 26) ∧ Rd W (· < wc.heap.size) (dAtomS R0) (.slice ra R0.length rc) ∧ Own W (dAtomS x1) (fun c => u1 ≤ c ∧ c < wx1.heap.size) (.slice (some ⟨p1_, 0, none⟩) x1.length x1.length) ∧ W.heap[wx2.heap.size]? = some (.cells #[.string ⟨x2.col.toArray⟩, .int .i64 x2.fn, .slice (some ⟨p2_2, 0, none⟩) x2.val.length x2.val.length] 37) ∧ Own W (dAtomS x2.val) (fun c => u2 ≤ c ∧ c < wx2.heap.size) (.slice (some ⟨p2_2, 0, none⟩) x2.val.length x2.val.length)) → Below W.heap.size W W' → (Below w.heap.size w W' ∧ W'.heap[w.heap.size]? = some (.cells #[.string ⟨x0.nm.toArray⟩, .int .i64 x0.k, .int .i64 x0.mn, .int .i64 x0.mx, .int .i64 x0.lo, .int .i64 x0.hi, .string ⟨x0.rf.toArray⟩, .bool x0.st] 23) ∧ W'.heap[w.heap.size + 1]? = some (.cells #[.string ⟨x2.col.toArray⟩, .int .i64 x2.fn, .slice a2_2 x2.val.length c2_2] 26) ∧ Rd W' (· < wc.heap.size) (dAtomS R0) (.slice ra R0.length rc) ∧ Own W' (dAtomS x1) (fun c => u1 ≤ c ∧ c < wx1.heap.size) (.slice (some ⟨p1_, 0, none⟩) x1.length x1.length) ∧ W'.heap[wx2.heap.size]? = some (.cells #[.string ⟨x2.col.toArray⟩, .int .i64 x2.fn, .slice (some ⟨p2_2, 0, none⟩) x2.val.length x2.val.length] 37) ∧ Own W' (dAtomS x2.val) (fun c => u2 ≤ c ∧ c < wx2.heap.size) (.slice (some ⟨p2_2, 0, none⟩) x2.val.length x2.val.length))) := fun W W' h hB => ⟨h.1.trans (hB.mono h.1.size), heap_keptD h.2.1 hB, heap_keptD h.2.2.1 hB, h.2.2.2.1.later hB, h.2.2.2.2.1.later hB, heap_keptD h.2.2.2.2.2.1 hB, h.2.2.2.2.2.2.later hB⟩
  have M3 : Hid (Below w.heap.size w (wx2.alloc (.cells #[.string ⟨x2.col.toArray⟩, .int .i64 x2.fn, .slice (some ⟨p2_2, 0, none⟩) x2.val.length x2.val.length] 37)) ∧ (wx2.alloc (.cells #[.string ⟨x2.col.toArray⟩, .int .i64 x2.fn, .slice (some ⟨p2_2, 0, none⟩) x2.val.length x2.val.length] 37)).heap[w.heap.size]? = some (.cells #[.string ⟨x0.nm.toArray⟩, .int .i64 x0.k, .int .i64 x0.mn, .int .i64 x0.mx, .int .i64 x0.lo, .int .i64 x0.hi, .string ⟨x0.rf.toArray⟩, .bool x0.st] 23) ∧ (wx2.alloc (.cells #[.string ⟨x2.col.toArray⟩, .int .i64 x2.fn, .slice (some ⟨p2_2, 0, none⟩) x2.val.length x2.val.length] 37)).heap[w.heap.size + 1]? = some (.cells #[.string ⟨x2.col.toArray⟩, .int .i64 x2.fn, .slice a2_2 x2.val.length c2_2] 26) ∧ Rd (wx2.alloc (.cells #[.string ⟨x2.col.toArray⟩, .int .i64 x2.fn, .slice (some ⟨p2_2, 0, none⟩) x2.val.length x2.val.length] 37)) (· < wc.heap.size) (dAtomS R0) (.slice ra R0.length rc) ∧ Own (wx2.alloc (.cells #[.string ⟨x2.col.toArray⟩, .int .i64 x2.fn, .slice (some ⟨p2_2, 0, none⟩) x2.val.length x2.val.length] 37)) (dAtomS x1) (fun c => u1 ≤ c ∧ c < wx1.heap.size) (.slice (some ⟨p1_, 0, none⟩) x1.length x1.length) ∧ (wx2.alloc (.cells #[.string ⟨x2.col.toArray⟩, .int .i64 x2.fn, .slice (some ⟨p2_2, 0, none⟩) x2.val.length x2.val.length] 37)).heap[wx2.heap.size]? = some (.cells #[.string ⟨x2.col.toArray⟩, .int .i64 x2.fn, .slice (some ⟨p2_2, 0, none⟩) x2.val.length x2.val.length] 37) ∧ Own (wx2.alloc (.cells #[.string ⟨x2.col.toArray⟩, .int .i64 x2.fn, .slice (some ⟨p2_2, 0, none⟩) x2.val.length x2.val.length] 37)) (dAtomS x2.val) (fun c => u2 ≤ c ∧ c < wx2.heap.size) (.slice (some ⟨p2_2, 0, none⟩) x2.val.length x2.val.length)) := ⟨hm.1.trans ((below_allocD _ _).mono hm.1.size), heap_keptD hm.2.1 (below_allocD _ _), heap_keptD hm.2.2.1 (below_allocD _ _), hm.2.2.2.1.later (below_allocD _ _), hm.2.2.2.2.later (below_allocD _ _), heap_newD _ _, (Owns.one ho (j := 2) (by omega)).later (below_allocD _ _)⟩
  clear f_arg0_0 f_arg0_1 f_arg0_2 f_arg0_3 f_arg0_4 f_arg0_5 f_arg0_6 f_arg0_7 f_arg2_0 f_arg2_1 f_arg2_2
  clear hm hB ho hu2 M2
  have f_arg0_0 := cell_at (o := 0) M3.out.2.1 rfl
  have f_arg0_1 := cell_at (o := 1) M3.out.2.1 rfl
  have f_arg0_2 := cell_at (o := 2) M3.out.2.1 rfl
  have f_arg0_3 := cell_at (o := 3) M3.out.2.1 rfl
  have f_arg0_4 := cell_at (o := 4) M3.out.2.1 rfl
  have f_arg0_5 := cell_at (o := 5) M3.out.2.1 rfl
  have f_arg0_6 := cell_at (o := 6) M3.out.2.1 rfl
  have f_arg0_7 := cell_at (o := 7) M3.out.2.1 rfl
  have f_arg2_0 := cell_at (o := 0) M3.out.2.2.1 rfl
  have f_arg2_1 := cell_at (o := 1) M3.out.2.2.1 rfl
  have f_arg2_2 := cell_at (o := 2) M3.out.2.2.1 rfl
  have f_x2_0 := cell_at (o := 0) M3.out.2.2.2.2.2.1 rfl
  have f_x2_1 := cell_at (o := 1) M3.out.2.2.2.2.2.1 rfl
  have f_x2_2 := cell_at (o := 2) M3.out.2.2.2.2.2.1 rfl
  go_wp2_with fail
  have CEP : Hid (∀ W, (Below w.heap.size w W ∧ W.heap[w.heap.size]? = some (.cells #[.string ⟨x0.nm.toArray⟩, .int .i64 x0.k, .int .i64 x0.mn, .int .i64 x0.mx, .int .i64 x0.lo, .int .i64 x0.hi, .string ⟨x0.rf.toArray⟩, .bool x0.st] 23) ∧ W.heap[w.heap.size + 1]? = some (.cells #[.string ⟨x2.col.toArray⟩, .int .i64 x2.fn, .slice a2_2 x2.val.length c2_2] 26) ∧ Rd W (· < wc.heap.size) (dAtomS R0) (.slice ra R0.length rc) ∧ Own W (dAtomS x1) (fun c => u1 ≤ c ∧ c < wx1.heap.size) (.slice (some ⟨p1_, 0, none⟩) x1.length x1.length) ∧ W.heap[wx2.heap.size]? = some (.cells #[.string ⟨x2.col.toArray⟩, .int .i64 x2.fn, .slice (some ⟨p2_2, 0, none⟩) x2.val.length x2.val.length] 37) ∧ Own W (dAtomS x2.val) (fun c => u2 ≤ c ∧ c < wx2.heap.size) (.slice (some ⟨p2_2, 0, none⟩) x2.val.length x2.val.length)) → (W.cell? ⟨w.heap.size, 0, none⟩ = some (.string ⟨x0.nm.toArray⟩) ∧ W.cell? ⟨w.heap.size, 1, none⟩ = some (.int .i64 x0.k) ∧ W.cell? ⟨w.heap.size, 2, none⟩ = some (.int .i64 x0.mn) ∧ W.cell? ⟨w.heap.size, 3, none⟩ = some (.int .i64 x0.mx) ∧ W.cell? ⟨w.heap.size, 4, none⟩ = some (.int .i64 x0.lo) ∧ W.cell? ⟨w.heap.size, 5, none⟩ = some (.int .i64 x0.hi) ∧ W.cell? ⟨w.heap.size, 6, none⟩ = some (.string ⟨x0.rf.toArray⟩) ∧ W.cell? ⟨w.heap.size, 7, none⟩ = some (.bool x0.st) ∧ W.cell? ⟨wx2.heap.size, 0, none⟩ = some (.string ⟨x2.col.toArray⟩) ∧ W.cell? ⟨wx2.heap.size, 1, none⟩ = some (.int .i64 x2.fn) ∧ W.cell? ⟨wx2.heap.size, 2, none⟩ = some (.slice (some ⟨p2_2, 0, none⟩) x2.val.length x2.val.length))) := fun W h => ⟨cell_at (o := 0) h.2.1 rfl, cell_at (o := 1) h.2.1 rfl, cell_at (o := 2) h.2.1 rfl, cell_at (o := 3) h.2.1 rfl, cell_at (o := 4) h.2.1 rfl, cell_at (o := 5) h.2.1 rfl, cell_at (o := 6) h.2.1 rfl, cell_at (o := 7) h.2.1 rfl, cell_at (o := 0) h.2.2.2.2.2.1 rfl, cell_at (o := 1) h.2.2.2.2.2.1 rfl, cell_at (o := 2) h.2.2.2.2.2.1 rfl⟩
  have XAP : Hid (∀ W, (Below w.heap.size w W ∧ W.heap[w.heap.size]? = some (.cells #[.string ⟨x0.nm.toArray⟩, .int .i64 x0.k, .int .i64 x0.mn, .int .i64 x0.mx, .int .i64 x0.lo, .int .i64 x0.hi, .string ⟨x0.rf.toArray⟩, .bool x0.st] 23) ∧ W.heap[w.heap.size + 1]? = some (.cells #[.string ⟨x2.col.toArray⟩, .int .i64 x2.fn, .slice a2_2 x2.val.length c2_2] 26) ∧ Rd W (· < wc.heap.size) (dAtomS R0) (.slice ra R0.length rc) ∧ Own W (dAtomS x1) (fun c => u1 ≤ c ∧ c < wx1.heap.size) (.slice (some ⟨p1_, 0, none⟩) x1.length x1.length) ∧ W.heap[wx2.heap.size]? = some (.cells #[.string ⟨x2.col.toArray⟩, .int .i64 x2.fn, .slice (some ⟨p2_2, 0, none⟩) x2.val.length x2.val.length] 37) ∧ Own W (dAtomS x2.val) (fun c => u2 ≤ c ∧ c < wx2.heap.size) (.slice (some ⟨p2_2, 0, none⟩) x2.val.length x2.val.length)) → (Below w.heap.size w W ∧ W.heap[w.heap.size]? = some (.cells #[.string ⟨x0.nm.toArray⟩, .int .i64 x0.k, .int .i64 x0.mn, .int .i64 x0.mx, .int .i64 x0.lo, .int .i64 x0.hi, .string ⟨x0.rf.toArray⟩, .bool x0.st] 23) ∧ W.heap[w.heap.size + 1]? = some (.cells #[.string ⟨x2.col.toArray⟩, .int .i64 x2.fn, .slice a2_2 x2.val.length c2_2] 26))) := fun W h => ⟨h.1, h.2.1, h.2.2.1⟩
  have hx := M3.out
  clear M3
  refine wp_region_held_drew (S := (fun W => W.cell? ⟨w.heap.size, 0, none⟩ = some (.string ⟨x0.nm.toArray⟩) ∧ W.cell? ⟨w.heap.size, 1, none⟩ = some (.int .i64 x0.k) ∧ W.cell? ⟨w.heap.size, 2, none⟩ = some (.int .i64 x0.mn) ∧ W.cell? ⟨w.heap.size, 3, none⟩ = some (.int .i64 x0.mx) ∧ W.cell? ⟨w.heap.size, 4, none⟩ = some (.int .i64 x0.lo) ∧ W.cell? ⟨w.heap.size, 5, none⟩ = some (.int .i64 x0.hi) ∧ W.cell? ⟨w.heap.size, 6, none⟩ = some (.string ⟨x0.rf.toArray⟩) ∧ W.cell? ⟨w.heap.size, 7, none⟩ = some (.bool x0.st) ∧ W.cell? ⟨wx2.heap.size, 0, none⟩ = some (.string ⟨x2.col.toArray⟩) ∧ W.cell? ⟨wx2.heap.size, 1, none⟩ = some (.int .i64 x2.fn) ∧ W.cell? ⟨wx2.heap.size, 2, none⟩ = some (.slice (some ⟨p2_2, 0, none⟩) x2.val.length x2.val.length))) (by kernel_rfl) ?_ (fun hHeld => ?_)
  · (first | exact CEP.out _ hx | exact CEP.out _ (S3L.out _ _ hx (Below.refl _ _).drew))
  refine wpAnyH_take (i := 0) (v := ?_) rfl (by kernel_rfl) (by kernel_rfl) (by kernel_rfl) (fun _ _ _ h => h) (Or.inl ⟨by kernel_rfl, ?_⟩) (by assumption) ?_
  rotate_left
  · (intro wS hSw; (try dsimp only at hSw); go_simp <;> with_reducible rfl)
  try simp only [Act.put, tkS]
  refine wpAnyH_take (i := 2) (v := ?_) rfl (by kernel_rfl) (by kernel_rfl) (by kernel_rfl) (fun _ _ _ h => h) (Or.inl ⟨by kernel_rfl, ?_⟩) (by assumption) ?_
  rotate_left
  · (intro wS hSw; (try dsimp only at hSw); go_simp <;> with_reducible rfl)
  try simp only [Act.put, tkS]
  refine wpAnyH_take (i := 3) (v := ?_) rfl (by kernel_rfl) (by kernel_rfl) (by kernel_rfl) (fun _ _ _ h => h) (Or.inl ⟨by kernel_rfl, ?_⟩) (by assumption) ?_
  rotate_left
  · (intro wS hSw; (try dsimp only at hSw); go_simp <;> with_reducible rfl)
  try simp only [Act.put, tkS]
  refine wpAnyH_ready (rs := [1]) (by kernel_rfl) (by simp) (AllReadyH.cons rfl (fun K hK => ?_) AllReadyH.nil)
  go_simp
  (go_at_call 8; refine (TO0.out _ (by first | exact XAP.out _ hx | exact XAP.out _ (S3L.out _ _ hx (Below.refl _ _).drew))).mono ?_; rintro e wi0 ⟨rfl, hB, _⟩; have hbz : Below (wx2.alloc (.cells #[.string ⟨x2.col.toArray⟩, .int .i64 x2.fn, .slice (some ⟨p2_2, 0, none⟩) x2.val.length x2.val.length] 37)).heap.size (wx2.alloc (.cells #[.string ⟨x2.col.toArray⟩, .int .i64 x2.fn, .slice (some ⟨p2_2, 0, none⟩) x2.val.length x2.val.length] 37)) wi0 := (by first | exact hB | exact (Below.refl _ _).drew.trans hB); have h2 : Below w.heap.size w wi0 ∧ wi0.heap[w.heap.size]? = some (.cells #[.string ⟨x0.nm.toArray⟩, .int .i64 x0.k, .int .i64 x0.mn, .int .i64 x0.mx, .int .i64 x0.lo, .int .i64 x0.hi, .string ⟨x0.rf.toArray⟩, .bool x0.st] 23) ∧ wi0.heap[w.heap.size + 1]? = some (.cells #[.string ⟨x2.col.toArray⟩, .int .i64 x2.fn, .slice a2_2 x2.val.length c2_2] 26) ∧ Rd wi0 (· < wc.heap.size) (dAtomS R0) (.slice ra R0.length rc) ∧ Own wi0 (dAtomS x1) (fun c => u1 ≤ c ∧ c < wx1.heap.size) (.slice (some ⟨p1_, 0, none⟩) x1.length x1.length) ∧ wi0.heap[wx2.heap.size]? = some (.cells #[.string ⟨x2.col.toArray⟩, .int .i64 x2.fn, .slice (some ⟨p2_2, 0, none⟩) x2.val.length x2.val.length] 37) ∧ Own wi0 (dAtomS x2.val) (fun c => u2 ≤ c ∧ c < wx2.heap.size) (.slice (some ⟨p2_2, 0, none⟩) x2.val.length x2.val.length) := S3L.out _ _ hx hbz; have HLE0 : Hid ((wx2.alloc (.cells #[.string ⟨x2.col.toArray⟩, .int .i64 x2.fn, .slice (some ⟨p2_2, 0, none⟩) x2.val.length x2.val.length] 37)).heap.size ≤ wi0.heap.size) := hbz.size; clear hx hB hbz; have hx := h2; clear h2)
  refine hK.out _ _ ?_ (fun hHeld => ?_)
  · (first | exact CEP.out _ hx | exact CEP.out _ (S3L.out _ _ hx (Below.refl _ _).drew))
  clear hK K
  try simp only [Act.put, tkS]
  refine wpAnyH_ready (rs := [4]) (by kernel_rfl) (by simp) (AllReadyH.cons rfl (fun K hK => ?_) AllReadyH.nil)
  go_simp
  (go_at_call 11; refine (CI.out _ _ _ _ _ (by first | exact Rd.any (Own.rd' (hx.2.2.2.2.1)) | exact Rd.later (Rd.any (Own.rd' (hx.2.2.2.2.1))) (Below.refl _ _).drew) (by first | exact Rd.any (Own.rd' (hx.2.2.2.2.2.2)) | exact Rd.later (Rd.any (Own.rd' (hx.2.2.2.2.2.2))) (Below.refl _ _).drew)).mono ?_; rintro e wg ⟨ga, gc, rfl, ho, hB⟩; have hbz : Below wi0.heap.size wi0 wg := (by first | exact hB | exact (Below.refl _ _).drew.trans hB); have h2 : Below w.heap.size w wg ∧ wg.heap[w.heap.size]? = some (.cells #[.string ⟨x0.nm.toArray⟩, .int .i64 x0.k, .int .i64 x0.mn, .int .i64 x0.mx, .int .i64 x0.lo, .int .i64 x0.hi, .string ⟨x0.rf.toArray⟩, .bool x0.st] 23) ∧ wg.heap[w.heap.size + 1]? = some (.cells #[.string ⟨x2.col.toArray⟩, .int .i64 x2.fn, .slice a2_2 x2.val.length c2_2] 26) ∧ Rd wg (· < wc.heap.size) (dAtomS R0) (.slice ra R0.length rc) ∧ Own wg (dAtomS x1) (fun c => u1 ≤ c ∧ c < wx1.heap.size) (.slice (some ⟨p1_, 0, none⟩) x1.length x1.length) ∧ wg.heap[wx2.heap.size]? = some (.cells #[.string ⟨x2.col.toArray⟩, .int .i64 x2.fn, .slice (some ⟨p2_2, 0, none⟩) x2.val.length x2.val.length] 37) ∧ Own wg (dAtomS x2.val) (fun c => u2 ≤ c ∧ c < wx2.heap.size) (.slice (some ⟨p2_2, 0, none⟩) x2.val.length x2.val.length) := S3L.out _ _ hx hbz; have HOG : Hid (Own wg (dAtomS R0) (fun c => wi0.heap.size ≤ c ∧ c < wg.heap.size) (.slice ga R0.length gc)) := (by first | exact ho | (simpa using ho)); have HGS : Hid (wi0.heap.size ≤ wg.heap.size) := hbz.size; clear hx ho hB hbz; have hx := h2; clear h2)
  refine hK.out _ _ ?_ (fun hHeld => ?_)
  · (first | exact CEP.out _ hx | exact CEP.out _ (S3L.out _ _ hx (Below.refl _ _).drew))
  clear hK K
  try simp only [Act.put, tkS]
  refine wpAnyH_take (i := 5) (v := ?_) rfl (by kernel_rfl) (by kernel_rfl) (by kernel_rfl) (fun _ _ _ h => h) (Or.inl ⟨by kernel_rfl, ?_⟩) (by assumption) ?_
  rotate_left
  · (intro wS hSw; (try dsimp only at hSw); go_simp <;> with_reducible rfl)
  try simp only [Act.put, tkS]
  refine wpAnyH_take (i := 6) (v := ?_) rfl (by kernel_rfl) (by kernel_rfl) (by kernel_rfl) (fun _ _ _ h => h) (Or.inl ⟨by kernel_rfl, ?_⟩) (by assumption) ?_
  rotate_left
  · (intro wS hSw; (try dsimp only at hSw); go_simp <;> with_reducible rfl)
  try simp only [Act.put, tkS]
  refine wpAnyH_take (i := 7) (v := ?_) rfl (by kernel_rfl) (by kernel_rfl) (by kernel_rfl) (fun _ _ _ h => h) (Or.inl ⟨by kernel_rfl, ?_⟩) (by assumption) ?_
  rotate_left
  · (intro wS hSw; (try dsimp only at hSw); go_simp <;> with_reducible rfl)
  try simp only [Act.put, tkS]
  refine wpAnyH_take (i := 8) (v := ?_) rfl (by kernel_rfl) (by kernel_rfl) (by kernel_rfl) (fun _ _ _ h => h) (Or.inl ⟨by kernel_rfl, ?_⟩) (by assumption) ?_
  rotate_left
  · (intro wS hSw; (try dsimp only at hSw); go_simp <;> with_reducible rfl)
  try simp only [Act.put, tkS]
  refine wpAnyH_take (i := 9) (v := ?_) rfl (by kernel_rfl) (by kernel_rfl) (by kernel_rfl) (fun _ _ _ h => h) (Or.inl ⟨by kernel_rfl, ?_⟩) (by assumption) ?_
  rotate_left
  · (intro wS hSw; (try dsimp only at hSw); go_simp <;> with_reducible rfl)
  try simp only [Act.put, tkS]
  refine wpAnyH_done (by kernel_rfl) ?_ _
  have hm := hx
  have ho := HOG.out
  have hB : Hid True := trivial
  obtain ⟨ug, hug⟩ : ∃ u, u = wi0.heap.size := ⟨_, rfl⟩
  have UG : Hid (wx2.heap.size + 1 ≤ ug ∧ ug ≤ wg.heap.size) := by refine ⟨?_, by rw [hug]; exact HGS.out⟩; rw [hug]; have hz0 := HLE0.out; (try simp only [size_allocD] at hz0); omega
  rw [← hug] at ho
  clear hx HOG HGS HLE0
  have SGL : Hid (∀ W W', (Below w.heap.size w W ∧ W.heap[w.heap.size]? = some (.cells #[.string ⟨x0.nm.toArray⟩, .int .i64 x0.k, .int .i64 x0.mn, .int .i64 x0.mx, .int .i64 x0.lo, .int .i64 x0.hi, .string ⟨x0.rf.toArray⟩, .bool x0.st] 23) ∧ W.heap[w.heap.size + 1]? = some (.cells #[.string ⟨x2.col.toArray⟩, .int .i64 x2.fn, .slice a2_2 x2.val.length c2_2] 26) ∧ Rd W (· < wc.heap.size) (dAtomS R0) (.slice ra R0.length rc) ∧ Own W (dAtomS x1) (fun c => u1 ≤ c ∧ c < wx1.heap.size) (.slice (some ⟨p1_, 0, none⟩) x1.length x1.length) ∧ W.heap[wx2.heap.size]? = some (.cells #[.string ⟨x2.col.toArray⟩, .int .i64 x2.fn, .slice (some ⟨p2_2, 0, none⟩) x2.val.length x2.val.length] 37) ∧ Own W (dAtomS x2.val) (fun c => u2 ≤ c ∧ c < wx2.heap.size) (.slice (some ⟨p2_2, 0, none⟩) x2.val.length x2.val.length) ∧ Own W (dAtomS R0) (fun c => ug ≤ c ∧ c < wg.heap.size) (.slice ga R0.length gc)) → Below W.heap.size W W' → (Below w.heap.size w W' ∧ W'.heap[w.heap.size]? = some (.cells #[.string ⟨x0.nm.toArray⟩, .int .i64 x0.k, .int .i64 x0.mn, .int .i64 x0.mx, .int .i64 x0.lo, .int .i64 x0.hi, .string ⟨x0.rf.toArray⟩, .bool x0.st] 23) ∧ W'.heap[w.heap.size + 1]? = some (.cells #[.string ⟨x2.col.toArray⟩, .int .i64 x2.fn, .slice a2_2 x2.val.length c2_2] 26) ∧ Rd W' (· < wc.heap.size) (dAtomS R0) (.slice ra R0.length rc) ∧ Own W' (dAtomS x1) (fun c => u1 ≤ c ∧ c < wx1.heap.size) (.slice (some ⟨p1_, 0, none⟩) x1.length x1.length) ∧ W'.heap[wx2.heap.size]? = some (.cells #[.string ⟨x2.col.toArray⟩, .int .i64 x2.fn, .slice (some ⟨p2_2, 0, none⟩) x2.val.length x2.val.length] 37) ∧ Own W' (dAtomS x2.val) (fun c => u2 ≤ c ∧ c < wx2.heap.size) (.slice (some ⟨p2_2, 0, none⟩) x2.val.length x2.val.length) ∧ Own W' (dAtomS R0) (fun c => ug ≤ c ∧ c < wg.heap.size) (.slice ga R0.length gc))) := fun W W' h hB => ⟨h.1.trans (hB.mono h.1.size), heap_keptD h.2.1 hB, heap_keptD h.2.2.1 hB, h.2.2.2.1.later hB, h.2.2.2.2.1.later hB, heap_keptD h.2.2.2.2.2.1 hB, h.2.2.2.2.2.2.1.later hB, h.2.2.2.2.2.2.2.later hB⟩
  have MG : Hid (Below w.heap.size w wg ∧ wg.heap[w.heap.size]? = some (.cells #[.string ⟨x0.nm.toArray⟩, .int .i64 x0.k, .int .i64 x0.mn, .int .i64 x0.mx, .int .i64 x0.lo, .int .i64 x0.hi, .string ⟨x0.rf.toArray⟩, .bool x0.st] 23) ∧ wg.heap[w.heap.size + 1]? = some (.cells #[.string ⟨x2.col.toArray⟩, .int .i64 x2.fn, .slice a2_2 x2.val.length c2_2] 26) ∧ Rd wg (· < wc.heap.size) (dAtomS R0) (.slice ra R0.length rc) ∧ Own wg (dAtomS x1) (fun c => u1 ≤ c ∧ c < wx1.heap.size) (.slice (some ⟨p1_, 0, none⟩) x1.length x1.length) ∧ wg.heap[wx2.heap.size]? = some (.cells #[.string ⟨x2.col.toArray⟩, .int .i64 x2.fn, .slice (some ⟨p2_2, 0, none⟩) x2.val.length x2.val.length] 37) ∧ Own wg (dAtomS x2.val) (fun c => u2 ≤ c ∧ c < wx2.heap.size) (.slice (some ⟨p2_2, 0, none⟩) x2.val.length x2.val.length) ∧ Own wg (dAtomS R0) (fun c => ug ≤ c ∧ c < wg.heap.size) (.slice ga R0.length gc)) := ⟨hm.1.trans ((Below.refl _ _).mono hm.1.size), heap_keptD hm.2.1 (Below.refl _ _), heap_keptD hm.2.2.1 (Below.refl _ _), hm.2.2.2.1.later (Below.refl _ _), hm.2.2.2.2.1.later (Below.refl _ _), heap_keptD hm.2.2.2.2.2.1 (Below.refl _ _), hm.2.2.2.2.2.2.later (Below.refl _ _), ho.later (Below.refl _ _)⟩
  clear f_arg0_0 f_arg0_1 f_arg0_2 f_arg0_3 f_arg0_4 f_arg0_5 f_arg0_6 f_arg0_7 f_arg2_0 f_arg2_1 f_arg2_2 f_x2_0 f_x2_1 f_x2_2
  clear hm hB ho hug 
  have ORD := Lib.hid (And.intro (O0.out) (And.intro (U1.out) (And.intro (U2.out) (UG.out))))
  have f_arg0_0 := cell_at (o := 0) MG.out.2.1 rfl
  have f_arg0_1 := cell_at (o := 1) MG.out.2.1 rfl
  have f_arg0_2 := cell_at (o := 2) MG.out.2.1 rfl
  have f_arg0_3 := cell_at (o := 3) MG.out.2.1 rfl
  have f_arg0_4 := cell_at (o := 4) MG.out.2.1 rfl
  have f_arg0_5 := cell_at (o := 5) MG.out.2.1 rfl
  have f_arg0_6 := cell_at (o := 6) MG.out.2.1 rfl
  have f_arg0_7 := cell_at (o := 7) MG.out.2.1 rfl
  have f_arg2_0 := cell_at (o := 0) MG.out.2.2.1 rfl
  have f_arg2_1 := cell_at (o := 1) MG.out.2.2.1 rfl
  have f_arg2_2 := cell_at (o := 2) MG.out.2.2.1 rfl
  have f_x2_0 := cell_at (o := 0) MG.out.2.2.2.2.2.1 rfl
  have f_x2_1 := cell_at (o := 1) MG.out.2.2.2.2.2.1 rfl
  have f_x2_2 := cell_at (o := 2) MG.out.2.2.2.2.2.1 rfl
  go_wp2_with fail
  refine (EQR.out _ _ _ _ _ (Rd.any (Own.rd' (MG.out.2.2.2.2.2.2.2))) (Rd.any (MG.out.2.2.2.1))).mono ?_
  rintro e wc0 ⟨rfl, hB⟩
  have N1 := Lib.hid (SGL.out _ _ MG.out hB)
  clear f_arg0_0 f_arg0_1 f_arg0_2 f_arg0_3 f_arg0_4 f_arg0_5 f_arg0_6 f_arg0_7 f_arg2_0 f_arg2_1 f_arg2_2 f_x2_0 f_x2_1 f_x2_2
  clear hB MG
  have f_arg0_0 := cell_at (o := 0) N1.out.2.1 rfl
  have f_arg0_1 := cell_at (o := 1) N1.out.2.1 rfl
  have f_arg0_2 := cell_at (o := 2) N1.out.2.1 rfl
  have f_arg0_3 := cell_at (o := 3) N1.out.2.1 rfl
  have f_arg0_4 := cell_at (o := 4) N1.out.2.1 rfl
  have f_arg0_5 := cell_at (o := 5) N1.out.2.1 rfl
  have f_arg0_6 := cell_at (o := 6) N1.out.2.1 rfl
  have f_arg0_7 := cell_at (o := 7) N1.out.2.1 rfl
  have f_arg2_0 := cell_at (o := 0) N1.out.2.2.1 rfl
  have f_arg2_1 := cell_at (o := 1) N1.out.2.2.1 rfl
  have f_arg2_2 := cell_at (o := 2) N1.out.2.2.1 rfl
  have f_x2_0 := cell_at (o := 0) N1.out.2.2.2.2.2.1 rfl
  have f_x2_1 := cell_at (o := 1) N1.out.2.2.2.2.2.1 rfl
  have f_x2_2 := cell_at (o := 2) N1.out.2.2.2.2.2.1 rfl
  go_wp2_with fail
  have CE1 : Hid (∀ W, (Below w.heap.size w W ∧ W.heap[w.heap.size]? = some (.cells #[.string ⟨x0.nm.toArray⟩, .int .i64 x0.k, .int .i64 x0.mn, .int .i64 x0.mx, .int .i64 x0.lo, .int .i64 x0.hi, .string ⟨x0.rf.toArray⟩, .bool x0.st] 23) ∧ W.heap[w.heap.size + 1]? = some (.cells #[.string ⟨x2.col.toArray⟩, .int .i64 x2.fn, .slice a2_2 x2.val.length c2_2] 26) ∧ Rd W (· < wc.heap.size) (dAtomS R0) (.slice ra R0.length rc) ∧ Own W (dAtomS x1) (fun c => u1 ≤ c ∧ c < wx1.heap.size) (.slice (some ⟨p1_, 0, none⟩) x1.length x1.length) ∧ W.heap[wx2.heap.size]? = some (.cells #[.string ⟨x2.col.toArray⟩, .int .i64 x2.fn, .slice (some ⟨p2_2, 0, none⟩) x2.val.length x2.val.length] 37) ∧ Own W (dAtomS x2.val) (fun c => u2 ≤ c ∧ c < wx2.heap.size) (.slice (some ⟨p2_2, 0, none⟩) x2.val.length x2.val.length) ∧ Own W (dAtomS R0) (fun c => ug ≤ c ∧ c < wg.heap.size) (.slice ga R0.length gc)) → (True)) := fun W h => trivial
  have XA1 : Hid (∀ W, (Below w.heap.size w W ∧ W.heap[w.heap.size]? = some (.cells #[.string ⟨x0.nm.toArray⟩, .int .i64 x0.k, .int .i64 x0.mn, .int .i64 x0.mx, .int .i64 x0.lo, .int .i64 x0.hi, .string ⟨x0.rf.toArray⟩, .bool x0.st] 23) ∧ W.heap[w.heap.size + 1]? = some (.cells #[.string ⟨x2.col.toArray⟩, .int .i64 x2.fn, .slice a2_2 x2.val.length c2_2] 26) ∧ Rd W (· < wc.heap.size) (dAtomS R0) (.slice ra R0.length rc) ∧ Own W (dAtomS x1) (fun c => u1 ≤ c ∧ c < wx1.heap.size) (.slice (some ⟨p1_, 0, none⟩) x1.length x1.length) ∧ W.heap[wx2.heap.size]? = some (.cells #[.string ⟨x2.col.toArray⟩, .int .i64 x2.fn, .slice (some ⟨p2_2, 0, none⟩) x2.val.length x2.val.length] 37) ∧ Own W (dAtomS x2.val) (fun c => u2 ≤ c ∧ c < wx2.heap.size) (.slice (some ⟨p2_2, 0, none⟩) x2.val.length x2.val.length) ∧ Own W (dAtomS R0) (fun c => ug ≤ c ∧ c < wg.heap.size) (.slice ga R0.length gc)) → (Below w.heap.size w W ∧ W.heap[w.heap.size]? = some (.cells #[.string ⟨x0.nm.toArray⟩, .int .i64 x0.k, .int .i64 x0.mn, .int .i64 x0.mx, .int .i64 x0.lo, .int .i64 x0.hi, .string ⟨x0.rf.toArray⟩, .bool x0.st] 23) ∧ W.heap[w.heap.size + 1]? = some (.cells #[.string ⟨x2.col.toArray⟩, .int .i64 x2.fn, .slice a2_2 x2.val.length c2_2] 26))) := fun W h => ⟨h.1, h.2.1, h.2.2.1⟩
  have hx := N1.out
  clear N1
  refine (TO1.out _ (by first | exact XA1.out _ hx | exact XA1.out _ (SGL.out _ _ hx (Below.refl _ _).drew))).mono ?_
  rintro e we1 ⟨s1_, rfl, ho, hB, _⟩
  have h2 : Below w.heap.size w we1 ∧ we1.heap[w.heap.size]? = some (.cells #[.string ⟨x0.nm.toArray⟩, .int .i64 x0.k, .int .i64 x0.mn, .int .i64 x0.mx, .int .i64 x0.lo, .int .i64 x0.hi, .string ⟨x0.rf.toArray⟩, .bool x0.st] 23) ∧ we1.heap[w.heap.size + 1]? = some (.cells #[.string ⟨x2.col.toArray⟩, .int .i64 x2.fn, .slice a2_2 x2.val.length c2_2] 26) ∧ Rd we1 (· < wc.heap.size) (dAtomS R0) (.slice ra R0.length rc) ∧ Own we1 (dAtomS x1) (fun c => u1 ≤ c ∧ c < wx1.heap.size) (.slice (some ⟨p1_, 0, none⟩) x1.length x1.length) ∧ we1.heap[wx2.heap.size]? = some (.cells #[.string ⟨x2.col.toArray⟩, .int .i64 x2.fn, .slice (some ⟨p2_2, 0, none⟩) x2.val.length x2.val.length] 37) ∧ Own we1 (dAtomS x2.val) (fun c => u2 ≤ c ∧ c < wx2.heap.size) (.slice (some ⟨p2_2, 0, none⟩) x2.val.length x2.val.length) ∧ Own we1 (dAtomS R0) (fun c => ug ≤ c ∧ c < wg.heap.size) (.slice ga R0.length gc) := (by first | exact SGL.out _ _ hx hB | exact SGL.out _ _ (SGL.out _ _ hx (Below.refl _ _).drew) hB)
  clear hx
  have hx := h2
  clear h2
  have RE1_ : Hid (Rd _ (fun _ => True) (dAtomS x1) (.slice (some ⟨s1_, 0, none⟩) x1.length x1.length)) := ho.rd'.any
  clear hB ho
  go_wp2_with fail
  refine (EQ1.out _ _ _ _ _ (by first | exact Rd.any (Own.rd' (hx.2.2.2.2.1)) | exact Rd.later (Rd.any (Own.rd' (hx.2.2.2.2.1))) (Below.refl _ _).drew) (by first | exact RE1_.out | exact Rd.later RE1_.out (Below.refl _ _).drew)).mono ?_
  rintro e wf1 ⟨rfl, hB⟩
  have h2 : Below w.heap.size w wf1 ∧ wf1.heap[w.heap.size]? = some (.cells #[.string ⟨x0.nm.toArray⟩, .int .i64 x0.k, .int .i64 x0.mn, .int .i64 x0.mx, .int .i64 x0.lo, .int .i64 x0.hi, .string ⟨x0.rf.toArray⟩, .bool x0.st] 23) ∧ wf1.heap[w.heap.size + 1]? = some (.cells #[.string ⟨x2.col.toArray⟩, .int .i64 x2.fn, .slice a2_2 x2.val.length c2_2] 26) ∧ Rd wf1 (· < wc.heap.size) (dAtomS R0) (.slice ra R0.length rc) ∧ Own wf1 (dAtomS x1) (fun c => u1 ≤ c ∧ c < wx1.heap.size) (.slice (some ⟨p1_, 0, none⟩) x1.length x1.length) ∧ wf1.heap[wx2.heap.size]? = some (.cells #[.string ⟨x2.col.toArray⟩, .int .i64 x2.fn, .slice (some ⟨p2_2, 0, none⟩) x2.val.length x2.val.length] 37) ∧ Own wf1 (dAtomS x2.val) (fun c => u2 ≤ c ∧ c < wx2.heap.size) (.slice (some ⟨p2_2, 0, none⟩) x2.val.length x2.val.length) ∧ Own wf1 (dAtomS R0) (fun c => ug ≤ c ∧ c < wg.heap.size) (.slice ga R0.length gc) := (by first | exact SGL.out _ _ hx hB | exact SGL.out _ _ (SGL.out _ _ hx (Below.refl _ _).drew) hB)
  clear hx hB
  have hx := h2
  clear h2
  have N2 := Lib.hid hx
  clear f_arg0_0 f_arg0_1 f_arg0_2 f_arg0_3 f_arg0_4 f_arg0_5 f_arg0_6 f_arg0_7 f_arg2_0 f_arg2_1 f_arg2_2 f_x2_0 f_x2_1 f_x2_2
  clear hx RE1_
  have f_arg0_0 := cell_at (o := 0) N2.out.2.1 rfl
  have f_arg0_1 := cell_at (o := 1) N2.out.2.1 rfl
  have f_arg0_2 := cell_at (o := 2) N2.out.2.1 rfl
  have f_arg0_3 := cell_at (o := 3) N2.out.2.1 rfl
  have f_arg0_4 := cell_at (o := 4) N2.out.2.1 rfl
  have f_arg0_5 := cell_at (o := 5) N2.out.2.1 rfl
  have f_arg0_6 := cell_at (o := 6) N2.out.2.1 rfl
  have f_arg0_7 := cell_at (o := 7) N2.out.2.1 rfl
  have f_arg2_0 := cell_at (o := 0) N2.out.2.2.1 rfl
  have f_arg2_1 := cell_at (o := 1) N2.out.2.2.1 rfl
  have f_arg2_2 := cell_at (o := 2) N2.out.2.2.1 rfl
  have f_x2_0 := cell_at (o := 0) N2.out.2.2.2.2.2.1 rfl
  have f_x2_1 := cell_at (o := 1) N2.out.2.2.2.2.2.1 rfl
  have f_x2_2 := cell_at (o := 2) N2.out.2.2.2.2.2.1 rfl
  go_wp2_with fail
  have CE2 : Hid (∀ W, (Below w.heap.size w W ∧ W.heap[w.heap.size]? = some (.cells #[.string ⟨x0.nm.toArray⟩, .int .i64 x0.k, .int .i64 x0.mn, .int .i64 x0.mx, .int .i64 x0.lo, .int .i64 x0.hi, .string ⟨x0.rf.toArray⟩, .bool x0.st] 23) ∧ W.heap[w.heap.size + 1]? = some (.cells #[.string ⟨x2.col.toArray⟩, .int .i64 x2.fn, .slice a2_2 x2.val.length c2_2] 26) ∧ Rd W (· < wc.heap.size) (dAtomS R0) (.slice ra R0.length rc) ∧ Own W (dAtomS x1) (fun c => u1 ≤ c ∧ c < wx1.heap.size) (.slice (some ⟨p1_, 0, none⟩) x1.length x1.length) ∧ W.heap[wx2.heap.size]? = some (.cells #[.string ⟨x2.col.toArray⟩, .int .i64 x2.fn, .slice (some ⟨p2_2, 0, none⟩) x2.val.length x2.val.length] 37) ∧ Own W (dAtomS x2.val) (fun c => u2 ≤ c ∧ c < wx2.heap.size) (.slice (some ⟨p2_2, 0, none⟩) x2.val.length x2.val.length) ∧ Own W (dAtomS R0) (fun c => ug ≤ c ∧ c < wg.heap.size) (.slice ga R0.length gc)) → (W.cell? ⟨w.heap.size + 1, 0, none⟩ = some (.string ⟨x2.col.toArray⟩) ∧ W.cell? ⟨w.heap.size + 1, 1, none⟩ = some (.int .i64 x2.fn) ∧ W.cell? ⟨w.heap.size + 1, 2, none⟩ = some (.slice a2_2 x2.val.length c2_2) ∧ W.cell? ⟨wx2.heap.size, 0, none⟩ = some (.string ⟨x2.col.toArray⟩) ∧ W.cell? ⟨wx2.heap.size, 1, none⟩ = some (.int .i64 x2.fn) ∧ W.cell? ⟨wx2.heap.size, 2, none⟩ = some (.slice (some ⟨p2_2, 0, none⟩) x2.val.length x2.val.length))) := fun W h => ⟨cell_at (o := 0) h.2.2.1 rfl, cell_at (o := 1) h.2.2.1 rfl, cell_at (o := 2) h.2.2.1 rfl, cell_at (o := 0) h.2.2.2.2.2.1 rfl, cell_at (o := 1) h.2.2.2.2.2.1 rfl, cell_at (o := 2) h.2.2.2.2.2.1 rfl⟩
  have XA2 : Hid (∀ W, (Below w.heap.size w W ∧ W.heap[w.heap.size]? = some (.cells #[.string ⟨x0.nm.toArray⟩, .int .i64 x0.k, .int .i64 x0.mn, .int .i64 x0.mx, .int .i64 x0.lo, .int .i64 x0.hi, .string ⟨x0.rf.toArray⟩, .bool x0.st] 23) ∧ W.heap[w.heap.size + 1]? = some (.cells #[.string ⟨x2.col.toArray⟩, .int .i64 x2.fn, .slice a2_2 x2.val.length c2_2] 26) ∧ Rd W (· < wc.heap.size) (dAtomS R0) (.slice ra R0.length rc) ∧ Own W (dAtomS x1) (fun c => u1 ≤ c ∧ c < wx1.heap.size) (.slice (some ⟨p1_, 0, none⟩) x1.length x1.length) ∧ W.heap[wx2.heap.size]? = some (.cells #[.string ⟨x2.col.toArray⟩, .int .i64 x2.fn, .slice (some ⟨p2_2, 0, none⟩) x2.val.length x2.val.length] 37) ∧ Own W (dAtomS x2.val) (fun c => u2 ≤ c ∧ c < wx2.heap.size) (.slice (some ⟨p2_2, 0, none⟩) x2.val.length x2.val.length) ∧ Own W (dAtomS R0) (fun c => ug ≤ c ∧ c < wg.heap.size) (.slice ga R0.length gc)) → (Below w.heap.size w W ∧ W.heap[w.heap.size]? = some (.cells #[.string ⟨x0.nm.toArray⟩, .int .i64 x0.k, .int .i64 x0.mn, .int .i64 x0.mx, .int .i64 x0.lo, .int .i64 x0.hi, .string ⟨x0.rf.toArray⟩, .bool x0.st] 23) ∧ W.heap[w.heap.size + 1]? = some (.cells #[.string ⟨x2.col.toArray⟩, .int .i64 x2.fn, .slice a2_2 x2.val.length c2_2] 26))) := fun W h => ⟨h.1, h.2.1, h.2.2.1⟩
  have hx := N2.out
  clear N2
  refine wp_region_held_drew (S := (fun W => W.cell? ⟨w.heap.size + 1, 0, none⟩ = some (.string ⟨x2.col.toArray⟩) ∧ W.cell? ⟨w.heap.size + 1, 1, none⟩ = some (.int .i64 x2.fn) ∧ W.cell? ⟨w.heap.size + 1, 2, none⟩ = some (.slice a2_2 x2.val.length c2_2) ∧ W.cell? ⟨wx2.heap.size, 0, none⟩ = some (.string ⟨x2.col.toArray⟩) ∧ W.cell? ⟨wx2.heap.size, 1, none⟩ = some (.int .i64 x2.fn) ∧ W.cell? ⟨wx2.heap.size, 2, none⟩ = some (.slice (some ⟨p2_2, 0, none⟩) x2.val.length x2.val.length))) (by kernel_rfl) ?_ (fun hHeld => ?_)
  · (first | exact CE2.out _ hx | exact CE2.out _ (SGL.out _ _ hx (Below.refl _ _).drew))
  refine wpAnyH_take (i := 0) (v := ?_) rfl (by kernel_rfl) (by kernel_rfl) (by kernel_rfl) (fun _ _ _ h => h) (Or.inl ⟨by kernel_rfl, ?_⟩) (by assumption) ?_
  rotate_left
  · (intro wS hSw; (try dsimp only at hSw); go_simp <;> with_reducible rfl)
  try simp only [Act.put, tkS]
  refine wpAnyH_take (i := 1) (v := ?_) rfl (by kernel_rfl) (by kernel_rfl) (by kernel_rfl) (fun _ _ _ h => h) (Or.inl ⟨by kernel_rfl, ?_⟩) (by assumption) ?_
  rotate_left
  · (intro wS hSw; (try dsimp only at hSw); go_simp <;> with_reducible rfl)
  try simp only [Act.put, tkS]
  refine wpAnyH_ready (rs := [2]) (by kernel_rfl) (by simp) (AllReadyH.cons rfl (fun K hK => ?_) AllReadyH.nil)
  go_simp
  (go_at_call 10; refine (TO2.out _ (by first | exact XA2.out _ hx | exact XA2.out _ (SGL.out _ _ hx (Below.refl _ _).drew))).mono ?_; rintro e we2 ⟨s2_2, rfl, ho, hB, _⟩; have h2 : Below w.heap.size w we2 ∧ we2.heap[w.heap.size]? = some (.cells #[.string ⟨x0.nm.toArray⟩, .int .i64 x0.k, .int .i64 x0.mn, .int .i64 x0.mx, .int .i64 x0.lo, .int .i64 x0.hi, .string ⟨x0.rf.toArray⟩, .bool x0.st] 23) ∧ we2.heap[w.heap.size + 1]? = some (.cells #[.string ⟨x2.col.toArray⟩, .int .i64 x2.fn, .slice a2_2 x2.val.length c2_2] 26) ∧ Rd we2 (· < wc.heap.size) (dAtomS R0) (.slice ra R0.length rc) ∧ Own we2 (dAtomS x1) (fun c => u1 ≤ c ∧ c < wx1.heap.size) (.slice (some ⟨p1_, 0, none⟩) x1.length x1.length) ∧ we2.heap[wx2.heap.size]? = some (.cells #[.string ⟨x2.col.toArray⟩, .int .i64 x2.fn, .slice (some ⟨p2_2, 0, none⟩) x2.val.length x2.val.length] 37) ∧ Own we2 (dAtomS x2.val) (fun c => u2 ≤ c ∧ c < wx2.heap.size) (.slice (some ⟨p2_2, 0, none⟩) x2.val.length x2.val.length) ∧ Own we2 (dAtomS R0) (fun c => ug ≤ c ∧ c < wg.heap.size) (.slice ga R0.length gc) := (by first | exact SGL.out _ _ hx hB | exact SGL.out _ _ (SGL.out _ _ hx (Below.refl _ _).drew) hB); clear hx; have hx := h2; clear h2; have RE2_2 : Hid (Rd _ (fun _ => True) (dAtomS x2.val) (.slice (some ⟨s2_2, 0, none⟩) x2.val.length x2.val.length)) := (Owns.one ho (j := 2) (by omega)).rd'.any; clear hB ho)
  refine hK.out _ _ ?_ (fun hHeld => ?_)
  · (first | exact CE2.out _ hx | exact CE2.out _ (SGL.out _ _ hx (Below.refl _ _).drew))
  clear hK K
  try simp only [Act.put, tkS]
  refine wpAnyH_ready (rs := [3]) (by kernel_rfl) (by simp) (AllReadyH.cons rfl (fun K hK => ?_) AllReadyH.nil)
  go_simp
  (go_at_call 13; refine (EQ2.out _ _ _ _ _ (by first | exact Rd.any (Own.rd' (hx.2.2.2.2.2.2.1)) | exact Rd.later (Rd.any (Own.rd' (hx.2.2.2.2.2.2.1))) (Below.refl _ _).drew) (by first | exact RE2_2.out | exact Rd.later RE2_2.out (Below.refl _ _).drew)).mono ?_; rintro e wf2 ⟨rfl, hB⟩; have h2 : Below w.heap.size w wf2 ∧ wf2.heap[w.heap.size]? = some (.cells #[.string ⟨x0.nm.toArray⟩, .int .i64 x0.k, .int .i64 x0.mn, .int .i64 x0.mx, .int .i64 x0.lo, .int .i64 x0.hi, .string ⟨x0.rf.toArray⟩, .bool x0.st] 23) ∧ wf2.heap[w.heap.size + 1]? = some (.cells #[.string ⟨x2.col.toArray⟩, .int .i64 x2.fn, .slice a2_2 x2.val.length c2_2] 26) ∧ Rd wf2 (· < wc.heap.size) (dAtomS R0) (.slice ra R0.length rc) ∧ Own wf2 (dAtomS x1) (fun c => u1 ≤ c ∧ c < wx1.heap.size) (.slice (some ⟨p1_, 0, none⟩) x1.length x1.length) ∧ wf2.heap[wx2.heap.size]? = some (.cells #[.string ⟨x2.col.toArray⟩, .int .i64 x2.fn, .slice (some ⟨p2_2, 0, none⟩) x2.val.length x2.val.length] 37) ∧ Own wf2 (dAtomS x2.val) (fun c => u2 ≤ c ∧ c < wx2.heap.size) (.slice (some ⟨p2_2, 0, none⟩) x2.val.length x2.val.length) ∧ Own wf2 (dAtomS R0) (fun c => ug ≤ c ∧ c < wg.heap.size) (.slice ga R0.length gc) := (by first | exact SGL.out _ _ hx hB | exact SGL.out _ _ (SGL.out _ _ hx (Below.refl _ _).drew) hB); clear hx hB; have hx := h2; clear h2)
  refine hK.out _ _ ?_ (fun hHeld => ?_)
  · (first | exact CE2.out _ hx | exact CE2.out _ (SGL.out _ _ hx (Below.refl _ _).drew))
  clear hK K
  try simp only [Act.put, tkS]
  refine wpAnyH_take (i := 4) (v := ?_) rfl (by kernel_rfl) (by kernel_rfl) (by kernel_rfl) (fun _ _ _ h => h) (Or.inl ⟨by kernel_rfl, ?_⟩) (by assumption) ?_
  rotate_left
  · (intro wS hSw; (try dsimp only at hSw); go_simp <;> with_reducible rfl)
  try simp only [Act.put, tkS]
  refine wpAnyH_done (by kernel_rfl) ?_ _
  have N3 := Lib.hid hx
  clear f_arg0_0 f_arg0_1 f_arg0_2 f_arg0_3 f_arg0_4 f_arg0_5 f_arg0_6 f_arg0_7 f_arg2_0 f_arg2_1 f_arg2_2 f_x2_0 f_x2_1 f_x2_2
  clear hx RE2_2
  have f_arg0_0 := cell_at (o := 0) N3.out.2.1 rfl
  have f_arg0_1 := cell_at (o := 1) N3.out.2.1 rfl
  have f_arg0_2 := cell_at (o := 2) N3.out.2.1 rfl
  have f_arg0_3 := cell_at (o := 3) N3.out.2.1 rfl
  have f_arg0_4 := cell_at (o := 4) N3.out.2.1 rfl
  have f_arg0_5 := cell_at (o := 5) N3.out.2.1 rfl
  have f_arg0_6 := cell_at (o := 6) N3.out.2.1 rfl
  have f_arg0_7 := cell_at (o := 7) N3.out.2.1 rfl
  have f_arg2_0 := cell_at (o := 0) N3.out.2.2.1 rfl
  have f_arg2_1 := cell_at (o := 1) N3.out.2.2.1 rfl
  have f_arg2_2 := cell_at (o := 2) N3.out.2.2.1 rfl
  have f_x2_0 := cell_at (o := 0) N3.out.2.2.2.2.2.1 rfl
  have f_x2_1 := cell_at (o := 1) N3.out.2.2.2.2.2.1 rfl
  have f_x2_2 := cell_at (o := 2) N3.out.2.2.2.2.2.1 rfl
  go_wp2_with fail
  have MB : Hid True := trivial
  have T1F : Hid (∀ W W', (Below w.heap.size w W ∧ W.heap[w.heap.size]? = some (.cells #[.string ⟨x0.nm.toArray⟩, .int .i64 x0.k, .int .i64 x0.mn, .int .i64 x0.mx, .int .i64 x0.lo, .int .i64 x0.hi, .string ⟨x0.rf.toArray⟩, .bool x0.st] 23) ∧ W.heap[w.heap.size + 1]? = some (.cells #[.string ⟨x2.col.toArray⟩, .int .i64 x2.fn, .slice a2_2 x2.val.length c2_2] 26) ∧ Rd W (· < wc.heap.size) (dAtomS R0) (.slice ra R0.length rc) ∧ Own W (dAtomS x1) (fun c => u1 ≤ c ∧ c < wx1.heap.size) (.slice (some ⟨p1_, 0, none⟩) x1.length x1.length) ∧ W.heap[wx2.heap.size]? = some (.cells #[.string ⟨x2.col.toArray⟩, .int .i64 x2.fn, .slice (some ⟨p2_2, 0, none⟩) x2.val.length x2.val.length] 37) ∧ Own W (dAtomS x2.val) (fun c => u2 ≤ c ∧ c < wx2.heap.size) (.slice (some ⟨p2_2, 0, none⟩) x2.val.length x2.val.length) ∧ Own W (dAtomS R0) (fun c => ug ≤ c ∧ c < wg.heap.size) (.slice ga R0.length gc)) → Frm (fun c => u1 ≤ c ∧ c < wx1.heap.size) W W' → (Own W' ((dAtomS x1).mkd (1)) (fun c => u1 ≤ c ∧ c < wx1.heap.size) (.slice (some ⟨p1_, 0, none⟩) x1.length x1.length)) → (Below w.heap.size w W' ∧ W'.heap[w.heap.size]? = some (.cells #[.string ⟨x0.nm.toArray⟩, .int .i64 x0.k, .int .i64 x0.mn, .int .i64 x0.mx, .int .i64 x0.lo, .int .i64 x0.hi, .string ⟨x0.rf.toArray⟩, .bool x0.st] 23) ∧ W'.heap[w.heap.size + 1]? = some (.cells #[.string ⟨x2.col.toArray⟩, .int .i64 x2.fn, .slice a2_2 x2.val.length c2_2] 26) ∧ Rd W' (· < wc.heap.size) (dAtomS R0) (.slice ra R0.length rc) ∧ Own W' ((dAtomS x1).mkd (1)) (fun c => u1 ≤ c ∧ c < wx1.heap.size) (.slice (some ⟨p1_, 0, none⟩) x1.length x1.length) ∧ W'.heap[wx2.heap.size]? = some (.cells #[.string ⟨x2.col.toArray⟩, .int .i64 x2.fn, .slice (some ⟨p2_2, 0, none⟩) x2.val.length x2.val.length] 37) ∧ Own W' (dAtomS x2.val) (fun c => u2 ≤ c ∧ c < wx2.heap.size) (.slice (some ⟨p2_2, 0, none⟩) x2.val.length x2.val.length) ∧ Own W' (dAtomS R0) (fun c => ug ≤ c ∧ c < wg.heap.size) (.slice ga R0.length gc))) := fun W W' h hF ho0 => ⟨h.1.trans (Frm.below hF h.1.size (fun b hb hx => by have h1 := (fun (b : Nat) (hb : u1 ≤ b ∧ b < wx1.heap.size) => hb) b hx; have h2 := ORD.out; omega)), (hF.block _ (Array.getElem?_eq_some_iff.1 h.2.1).1 (fun hx => by have h1 := (fun (b : Nat) (hb : u1 ≤ b ∧ b < wx1.heap.size) => hb) _ hx; have h2 := ORD.out; omega)).trans h.2.1, (hF.block _ (Array.getElem?_eq_some_iff.1 h.2.2.1).1 (fun hx => by have h1 := (fun (b : Nat) (hb : u1 ≤ b ∧ b < wx1.heap.size) => hb) _ hx; have h2 := ORD.out; omega)).trans h.2.2.1, h.2.2.2.1.frm hF (fun b hb hx => by have h1 := (fun (b : Nat) (hb : u1 ≤ b ∧ b < wx1.heap.size) => hb) b hx; have h2 := ORD.out; have h3 : b < wc.heap.size := hb; omega), ho0, (hF.block _ (Array.getElem?_eq_some_iff.1 h.2.2.2.2.2.1).1 (fun hx => by have h1 := (fun (b : Nat) (hb : u1 ≤ b ∧ b < wx1.heap.size) => hb) _ hx; have h2 := ORD.out; omega)).trans h.2.2.2.2.2.1, h.2.2.2.2.2.2.1.frm hF (fun b hb hx => by have h1 := (fun (b : Nat) (hb : u1 ≤ b ∧ b < wx1.heap.size) => hb) b hx; have h2 := ORD.out; have h3 := (fun (b : Nat) (hb : u2 ≤ b ∧ b < wx2.heap.size) => hb) b hb; omega), h.2.2.2.2.2.2.2.frm hF (fun b hb hx => by have h1 := (fun (b : Nat) (hb : u1 ≤ b ∧ b < wx1.heap.size) => hb) b hx; have h2 := ORD.out; have h3 := (fun (b : Nat) (hb : ug ≤ b ∧ b < wg.heap.size) => hb) b hb; omega)⟩
  refine (mkDAtomS x1 (some ⟨p1_, 0, none⟩) x1.length (1) (fun c => u1 ≤ c ∧ c < wx1.heap.size) _ HO1.out (by omega) (by have g := D.wd_le (dAtomS x1) (HO1.out); have gz := HZ1.out; omega) (N3.out.2.2.2.2.1)).mono ?_
  rintro e wm1 ⟨rfl, ho, hF⟩
  have N4 := Lib.hid (T1F.out _ _ N3.out hF ho)
  clear f_arg0_0 f_arg0_1 f_arg0_2 f_arg0_3 f_arg0_4 f_arg0_5 f_arg0_6 f_arg0_7 f_arg2_0 f_arg2_1 f_arg2_2 f_x2_0 f_x2_1 f_x2_2
  clear ho hF N3
  have T1L : Hid (∀ W W', (Below w.heap.size w W ∧ W.heap[w.heap.size]? = some (.cells #[.string ⟨x0.nm.toArray⟩, .int .i64 x0.k, .int .i64 x0.mn, .int .i64 x0.mx, .int .i64 x0.lo, .int .i64 x0.hi, .string ⟨x0.rf.toArray⟩, .bool x0.st] 23) ∧ W.heap[w.heap.size + 1]? = some (.cells #[.string ⟨x2.col.toArray⟩, .int .i64 x2.fn, .slice a2_2 x2.val.length c2_2] 26) ∧ Rd W (· < wc.heap.size) (dAtomS R0) (.slice ra R0.length rc) ∧ Own W ((dAtomS x1).mkd (1)) (fun c => u1 ≤ c ∧ c < wx1.heap.size) (.slice (some ⟨p1_, 0, none⟩) x1.length x1.length) ∧ W.heap[wx2.heap.size]? = some (.cells #[.string ⟨x2.col.toArray⟩, .int .i64 x2.fn, .slice (some ⟨p2_2, 0, none⟩) x2.val.length x2.val.length] 37) ∧ Own W (dAtomS x2.val) (fun c => u2 ≤ c ∧ c < wx2.heap.size) (.slice (some ⟨p2_2, 0, none⟩) x2.val.length x2.val.length) ∧ Own W (dAtomS R0) (fun c => ug ≤ c ∧ c < wg.heap.size) (.slice ga R0.length gc)) → Below W.heap.size W W' → (Below w.heap.size w W' ∧ W'.heap[w.heap.size]? = some (.cells #[.string ⟨x0.nm.toArray⟩, .int .i64 x0.k, .int .i64 x0.mn, .int .i64 x0.mx, .int .i64 x0.lo, .int .i64 x0.hi, .string ⟨x0.rf.toArray⟩, .bool x0.st] 23) ∧ W'.heap[w.heap.size + 1]? = some (.cells #[.string ⟨x2.col.toArray⟩, .int .i64 x2.fn, .slice a2_2 x2.val.length c2_2] 26) ∧ Rd W' (· < wc.heap.size) (dAtomS R0) (.slice ra R0.length rc) ∧ Own W' ((dAtomS x1).mkd (1)) (fun c => u1 ≤ c ∧ c < wx1.heap.size) (.slice (some ⟨p1_, 0, none⟩) x1.length x1.length) ∧ W'.heap[wx2.heap.size]? = some (.cells #[.string ⟨x2.col.toArray⟩, .int .i64 x2.fn, .slice (some ⟨p2_2, 0, none⟩) x2.val.length x2.val.length] 37) ∧ Own W' (dAtomS x2.val) (fun c => u2 ≤ c ∧ c < wx2.heap.size) (.slice (some ⟨p2_2, 0, none⟩) x2.val.length x2.val.length) ∧ Own W' (dAtomS R0) (fun c => ug ≤ c ∧ c < wg.heap.size) (.slice ga R0.length gc))) := fun W W' h hB => ⟨h.1.trans (hB.mono h.1.size), heap_keptD h.2.1 hB, heap_keptD h.2.2.1 hB, h.2.2.2.1.later hB, h.2.2.2.2.1.later hB, heap_keptD h.2.2.2.2.2.1 hB, h.2.2.2.2.2.2.1.later hB, h.2.2.2.2.2.2.2.later hB⟩
  obtain ⟨k1, hk1⟩ : ∃ y : Nat, y = 1 + (dAtomS x1).wd := ⟨_, rfl⟩
  rw [← hk1]
  have hkb1 : Hid (k1 < 1000000000 ∧ 0 < k1) := by rw [hk1]; have g := D.wd_le (dAtomS x1) (HO1.out); have gz := HZ1.out; show _ ∧ _; omega
  have dk1 : decide ((k1 : Int) < 0) = false := by simp
  clear hk1
  have f_arg0_0 := cell_at (o := 0) N4.out.2.1 rfl
  have f_arg0_1 := cell_at (o := 1) N4.out.2.1 rfl
  have f_arg0_2 := cell_at (o := 2) N4.out.2.1 rfl
  have f_arg0_3 := cell_at (o := 3) N4.out.2.1 rfl
  have f_arg0_4 := cell_at (o := 4) N4.out.2.1 rfl
  have f_arg0_5 := cell_at (o := 5) N4.out.2.1 rfl
  have f_arg0_6 := cell_at (o := 6) N4.out.2.1 rfl
  have f_arg0_7 := cell_at (o := 7) N4.out.2.1 rfl
  have f_arg2_0 := cell_at (o := 0) N4.out.2.2.1 rfl
  have f_arg2_1 := cell_at (o := 1) N4.out.2.2.1 rfl
  have f_arg2_2 := cell_at (o := 2) N4.out.2.2.1 rfl
  have f_x2_0 := cell_at (o := 0) N4.out.2.2.2.2.2.1 rfl
  have f_x2_1 := cell_at (o := 1) N4.out.2.2.2.2.2.1 rfl
  have f_x2_2 := cell_at (o := 2) N4.out.2.2.2.2.2.1 rfl
  go_wp2_with fail
  have T2F : Hid (∀ W W', (Below w.heap.size w W ∧ W.heap[w.heap.size]? = some (.cells #[.string ⟨x0.nm.toArray⟩, .int .i64 x0.k, .int .i64 x0.mn, .int .i64 x0.mx, .int .i64 x0.lo, .int .i64 x0.hi, .string ⟨x0.rf.toArray⟩, .bool x0.st] 23) ∧ W.heap[w.heap.size + 1]? = some (.cells #[.string ⟨x2.col.toArray⟩, .int .i64 x2.fn, .slice a2_2 x2.val.length c2_2] 26) ∧ Rd W (· < wc.heap.size) (dAtomS R0) (.slice ra R0.length rc) ∧ Own W ((dAtomS x1).mkd (1)) (fun c => u1 ≤ c ∧ c < wx1.heap.size) (.slice (some ⟨p1_, 0, none⟩) x1.length x1.length) ∧ W.heap[wx2.heap.size]? = some (.cells #[.string ⟨x2.col.toArray⟩, .int .i64 x2.fn, .slice (some ⟨p2_2, 0, none⟩) x2.val.length x2.val.length] 37) ∧ Own W (dAtomS x2.val) (fun c => u2 ≤ c ∧ c < wx2.heap.size) (.slice (some ⟨p2_2, 0, none⟩) x2.val.length x2.val.length) ∧ Own W (dAtomS R0) (fun c => ug ≤ c ∧ c < wg.heap.size) (.slice ga R0.length gc)) → Frm (fun c => u2 ≤ c ∧ c < wx2.heap.size) W W' → (Own W' ((dAtomS x2.val).mkd (k1)) (fun c => u2 ≤ c ∧ c < wx2.heap.size) (.slice (some ⟨p2_2, 0, none⟩) x2.val.length x2.val.length)) → (Below w.heap.size w W' ∧ W'.heap[w.heap.size]? = some (.cells #[.string ⟨x0.nm.toArray⟩, .int .i64 x0.k, .int .i64 x0.mn, .int .i64 x0.mx, .int .i64 x0.lo, .int .i64 x0.hi, .string ⟨x0.rf.toArray⟩, .bool x0.st] 23) ∧ W'.heap[w.heap.size + 1]? = some (.cells #[.string ⟨x2.col.toArray⟩, .int .i64 x2.fn, .slice a2_2 x2.val.length c2_2] 26) ∧ Rd W' (· < wc.heap.size) (dAtomS R0) (.slice ra R0.length rc) ∧ Own W' ((dAtomS x1).mkd (1)) (fun c => u1 ≤ c ∧ c < wx1.heap.size) (.slice (some ⟨p1_, 0, none⟩) x1.length x1.length) ∧ W'.heap[wx2.heap.size]? = some (.cells #[.string ⟨x2.col.toArray⟩, .int .i64 x2.fn, .slice (some ⟨p2_2, 0, none⟩) x2.val.length x2.val.length] 37) ∧ Own W' ((dAtomS x2.val).mkd (k1)) (fun c => u2 ≤ c ∧ c < wx2.heap.size) (.slice (some ⟨p2_2, 0, none⟩) x2.val.length x2.val.length) ∧ Own W' (dAtomS R0) (fun c => ug ≤ c ∧ c < wg.heap.size) (.slice ga R0.length gc))) := fun W W' h hF ho0 => ⟨h.1.trans (Frm.below hF h.1.size (fun b hb hx => by have h1 := (fun (b : Nat) (hb : u2 ≤ b ∧ b < wx2.heap.size) => hb) b hx; have h2 := ORD.out; omega)), (hF.block _ (Array.getElem?_eq_some_iff.1 h.2.1).1 (fun hx => by have h1 := (fun (b : Nat) (hb : u2 ≤ b ∧ b < wx2.heap.size) => hb) _ hx; have h2 := ORD.out; omega)).trans h.2.1, (hF.block _ (Array.getElem?_eq_some_iff.1 h.2.2.1).1 (fun hx => by have h1 := (fun (b : Nat) (hb : u2 ≤ b ∧ b < wx2.heap.size) => hb) _ hx; have h2 := ORD.out; omega)).trans h.2.2.1, h.2.2.2.1.frm hF (fun b hb hx => by have h1 := (fun (b : Nat) (hb : u2 ≤ b ∧ b < wx2.heap.size) => hb) b hx; have h2 := ORD.out; have h3 : b < wc.heap.size := hb; omega), h.2.2.2.2.1.frm hF (fun b hb hx => by have h1 := (fun (b : Nat) (hb : u2 ≤ b ∧ b < wx2.heap.size) => hb) b hx; have h2 := ORD.out; have h3 := (fun (b : Nat) (hb : u1 ≤ b ∧ b < wx1.heap.size) => hb) b hb; omega), (hF.block _ (Array.getElem?_eq_some_iff.1 h.2.2.2.2.2.1).1 (fun hx => by have h1 := (fun (b : Nat) (hb : u2 ≤ b ∧ b < wx2.heap.size) => hb) _ hx; have h2 := ORD.out; omega)).trans h.2.2.2.2.2.1, ho0, h.2.2.2.2.2.2.2.frm hF (fun b hb hx => by have h1 := (fun (b : Nat) (hb : u2 ≤ b ∧ b < wx2.heap.size) => hb) b hx; have h2 := ORD.out; have h3 := (fun (b : Nat) (hb : ug ≤ b ∧ b < wg.heap.size) => hb) b hb; omega)⟩
  refine (mkDMut x2 (some ⟨p2_2, 0, none⟩) x2.val.length (k1) (fun c => u2 ≤ c ∧ c < wx2.heap.size) _ (HO2.out 2 (by omega)) (by have gk := hkb1.out; omega) (by have gk := hkb1.out; have g2 := D.wd_le (dAtomS x2.val) (HO2.out 2 (by omega)); have gz := HZ2.out; rw [szT_Mut] at gz; omega) (N4.out.2.2.2.2.2.2.1)).mono ?_
  rintro e wm2 ⟨rfl, ho, hF⟩
  have N5 := Lib.hid (T2F.out _ _ N4.out hF ho)
  clear f_arg0_0 f_arg0_1 f_arg0_2 f_arg0_3 f_arg0_4 f_arg0_5 f_arg0_6 f_arg0_7 f_arg2_0 f_arg2_1 f_arg2_2 f_x2_0 f_x2_1 f_x2_2
  clear ho hF N4
  have T2L : Hid (∀ W W', (Below w.heap.size w W ∧ W.heap[w.heap.size]? = some (.cells #[.string ⟨x0.nm.toArray⟩, .int .i64 x0.k, .int .i64 x0.mn, .int .i64 x0.mx, .int .i64 x0.lo, .int .i64 x0.hi, .string ⟨x0.rf.toArray⟩, .bool x0.st] 23) ∧ W.heap[w.heap.size + 1]? = some (.cells #[.string ⟨x2.col.toArray⟩, .int .i64 x2.fn, .slice a2_2 x2.val.length c2_2] 26) ∧ Rd W (· < wc.heap.size) (dAtomS R0) (.slice ra R0.length rc) ∧ Own W ((dAtomS x1).mkd (1)) (fun c => u1 ≤ c ∧ c < wx1.heap.size) (.slice (some ⟨p1_, 0, none⟩) x1.length x1.length) ∧ W.heap[wx2.heap.size]? = some (.cells #[.string ⟨x2.col.toArray⟩, .int .i64 x2.fn, .slice (some ⟨p2_2, 0, none⟩) x2.val.length x2.val.length] 37) ∧ Own W ((dAtomS x2.val).mkd (k1)) (fun c => u2 ≤ c ∧ c < wx2.heap.size) (.slice (some ⟨p2_2, 0, none⟩) x2.val.length x2.val.length) ∧ Own W (dAtomS R0) (fun c => ug ≤ c ∧ c < wg.heap.size) (.slice ga R0.length gc)) → Below W.heap.size W W' → (Below w.heap.size w W' ∧ W'.heap[w.heap.size]? = some (.cells #[.string ⟨x0.nm.toArray⟩, .int .i64 x0.k, .int .i64 x0.mn, .int .i64 x0.mx, .int .i64 x0.lo, .int .i64 x0.hi, .string ⟨x0.rf.toArray⟩, .bool x0.st] 23) ∧ W'.heap[w.heap.size + 1]? = some (.cells #[.string ⟨x2.col.toArray⟩, .int .i64 x2.fn, .slice a2_2 x2.val.length c2_2] 26) ∧ Rd W' (· < wc.heap.size) (dAtomS R0) (.slice ra R0.length rc) ∧ Own W' ((dAtomS x1).mkd (1)) (fun c => u1 ≤ c ∧ c < wx1.heap.size) (.slice (some ⟨p1_, 0, none⟩) x1.length x1.length) ∧ W'.heap[wx2.heap.size]? = some (.cells #[.string ⟨x2.col.toArray⟩, .int .i64 x2.fn, .slice (some ⟨p2_2, 0, none⟩) x2.val.length x2.val.length] 37) ∧ Own W' ((dAtomS x2.val).mkd (k1)) (fun c => u2 ≤ c ∧ c < wx2.heap.size) (.slice (some ⟨p2_2, 0, none⟩) x2.val.length x2.val.length) ∧ Own W' (dAtomS R0) (fun c => ug ≤ c ∧ c < wg.heap.size) (.slice ga R0.length gc))) := fun W W' h hB => ⟨h.1.trans (hB.mono h.1.size), heap_keptD h.2.1 hB, heap_keptD h.2.2.1 hB, h.2.2.2.1.later hB, h.2.2.2.2.1.later hB, heap_keptD h.2.2.2.2.2.1 hB, h.2.2.2.2.2.2.1.later hB, h.2.2.2.2.2.2.2.later hB⟩
  obtain ⟨k2, hk2⟩ : ∃ y : Nat, y = k1 + (dAtomS x2.val).wd := ⟨_, rfl⟩
  rw [← hk2]
  have hkb2 : Hid (k2 < 2000000000 ∧ 0 < k2) := by rw [hk2]; have gk := hkb1.out; have g2 := D.wd_le (dAtomS x2.val) (HO2.out 2 (by omega)); have gz := HZ2.out; rw [szT_Mut] at gz; show _ ∧ _; omega
  have dk2 : decide ((k2 : Int) < 0) = false := by simp
  clear hk2
  have f_arg0_0 := cell_at (o := 0) N5.out.2.1 rfl
  have f_arg0_1 := cell_at (o := 1) N5.out.2.1 rfl
  have f_arg0_2 := cell_at (o := 2) N5.out.2.1 rfl
  have f_arg0_3 := cell_at (o := 3) N5.out.2.1 rfl
  have f_arg0_4 := cell_at (o := 4) N5.out.2.1 rfl
  have f_arg0_5 := cell_at (o := 5) N5.out.2.1 rfl
  have f_arg0_6 := cell_at (o := 6) N5.out.2.1 rfl
  have f_arg0_7 := cell_at (o := 7) N5.out.2.1 rfl
  have f_arg2_0 := cell_at (o := 0) N5.out.2.2.1 rfl
  have f_arg2_1 := cell_at (o := 1) N5.out.2.2.1 rfl
  have f_arg2_2 := cell_at (o := 2) N5.out.2.2.1 rfl
  have f_x2_0 := cell_at (o := 0) N5.out.2.2.2.2.2.1 rfl
  have f_x2_1 := cell_at (o := 1) N5.out.2.2.2.2.2.1 rfl
  have f_x2_2 := cell_at (o := 2) N5.out.2.2.2.2.2.1 rfl
  go_wp2_with fail
  refine (EQR.out _ _ _ _ _ (Rd.any (Own.rd' (N5.out.2.2.2.2.2.2.2))) (Rd.any (N5.out.2.2.2.1))).mono ?_
  rintro e wc5 ⟨rfl, hB⟩
  have N6 := Lib.hid (T2L.out _ _ N5.out hB)
  clear f_arg0_0 f_arg0_1 f_arg0_2 f_arg0_3 f_arg0_4 f_arg0_5 f_arg0_6 f_arg0_7 f_arg2_0 f_arg2_1 f_arg2_2 f_x2_0 f_x2_1 f_x2_2
  clear hB N5
  have f_arg0_0 := cell_at (o := 0) N6.out.2.1 rfl
  have f_arg0_1 := cell_at (o := 1) N6.out.2.1 rfl
  have f_arg0_2 := cell_at (o := 2) N6.out.2.1 rfl
  have f_arg0_3 := cell_at (o := 3) N6.out.2.1 rfl
  have f_arg0_4 := cell_at (o := 4) N6.out.2.1 rfl
  have f_arg0_5 := cell_at (o := 5) N6.out.2.1 rfl
  have f_arg0_6 := cell_at (o := 6) N6.out.2.1 rfl
  have f_arg0_7 := cell_at (o := 7) N6.out.2.1 rfl
  have f_arg2_0 := cell_at (o := 0) N6.out.2.2.1 rfl
  have f_arg2_1 := cell_at (o := 1) N6.out.2.2.1 rfl
  have f_arg2_2 := cell_at (o := 2) N6.out.2.2.1 rfl
  have f_x2_0 := cell_at (o := 0) N6.out.2.2.2.2.2.1 rfl
  have f_x2_1 := cell_at (o := 1) N6.out.2.2.2.2.2.1 rfl
  have f_x2_2 := cell_at (o := 2) N6.out.2.2.2.2.2.1 rfl
  go_wp2_with fail
  have TGF : Hid (∀ W W', (Below w.heap.size w W ∧ W.heap[w.heap.size]? = some (.cells #[.string ⟨x0.nm.toArray⟩, .int .i64 x0.k, .int .i64 x0.mn, .int .i64 x0.mx, .int .i64 x0.lo, .int .i64 x0.hi, .string ⟨x0.rf.toArray⟩, .bool x0.st] 23) ∧ W.heap[w.heap.size + 1]? = some (.cells #[.string ⟨x2.col.toArray⟩, .int .i64 x2.fn, .slice a2_2 x2.val.length c2_2] 26) ∧ Rd W (· < wc.heap.size) (dAtomS R0) (.slice ra R0.length rc) ∧ Own W ((dAtomS x1).mkd (1)) (fun c => u1 ≤ c ∧ c < wx1.heap.size) (.slice (some ⟨p1_, 0, none⟩) x1.length x1.length) ∧ W.heap[wx2.heap.size]? = some (.cells #[.string ⟨x2.col.toArray⟩, .int .i64 x2.fn, .slice (some ⟨p2_2, 0, none⟩) x2.val.length x2.val.length] 37) ∧ Own W ((dAtomS x2.val).mkd (k1)) (fun c => u2 ≤ c ∧ c < wx2.heap.size) (.slice (some ⟨p2_2, 0, none⟩) x2.val.length x2.val.length) ∧ Own W (dAtomS R0) (fun c => ug ≤ c ∧ c < wg.heap.size) (.slice ga R0.length gc)) → Frm (fun c => ug ≤ c ∧ c < wg.heap.size) W W' → (Own W' ((dAtomS R0).mkd 1) (fun c => ug ≤ c ∧ c < wg.heap.size) (.slice ga R0.length gc)) → (Below w.heap.size w W' ∧ W'.heap[w.heap.size]? = some (.cells #[.string ⟨x0.nm.toArray⟩, .int .i64 x0.k, .int .i64 x0.mn, .int .i64 x0.mx, .int .i64 x0.lo, .int .i64 x0.hi, .string ⟨x0.rf.toArray⟩, .bool x0.st] 23) ∧ W'.heap[w.heap.size + 1]? = some (.cells #[.string ⟨x2.col.toArray⟩, .int .i64 x2.fn, .slice a2_2 x2.val.length c2_2] 26) ∧ Rd W' (· < wc.heap.size) (dAtomS R0) (.slice ra R0.length rc) ∧ Own W' ((dAtomS x1).mkd (1)) (fun c => u1 ≤ c ∧ c < wx1.heap.size) (.slice (some ⟨p1_, 0, none⟩) x1.length x1.length) ∧ W'.heap[wx2.heap.size]? = some (.cells #[.string ⟨x2.col.toArray⟩, .int .i64 x2.fn, .slice (some ⟨p2_2, 0, none⟩) x2.val.length x2.val.length] 37) ∧ Own W' ((dAtomS x2.val).mkd (k1)) (fun c => u2 ≤ c ∧ c < wx2.heap.size) (.slice (some ⟨p2_2, 0, none⟩) x2.val.length x2.val.length) ∧ Own W' ((dAtomS R0).mkd 1) (fun c => ug ≤ c ∧ c < wg.heap.size) (.slice ga R0.length gc))) := fun W W' h hF ho0 => ⟨h.1.trans (Frm.below hF h.1.size (fun b hb hx => by have h1 := (fun (b : Nat) (hb : ug ≤ b ∧ b < wg.heap.size) => hb) b hx; have h2 := ORD.out; omega)), (hF.block _ (Array.getElem?_eq_some_iff.1 h.2.1).1 (fun hx => by have h1 := (fun (b : Nat) (hb : ug ≤ b ∧ b < wg.heap.size) => hb) _ hx; have h2 := ORD.out; omega)).trans h.2.1, (hF.block _ (Array.getElem?_eq_some_iff.1 h.2.2.1).1 (fun hx => by have h1 := (fun (b : Nat) (hb : ug ≤ b ∧ b < wg.heap.size) => hb) _ hx; have h2 := ORD.out; omega)).trans h.2.2.1, h.2.2.2.1.frm hF (fun b hb hx => by have h1 := (fun (b : Nat) (hb : ug ≤ b ∧ b < wg.heap.size) => hb) b hx; have h2 := ORD.out; have h3 : b < wc.heap.size := hb; omega), h.2.2.2.2.1.frm hF (fun b hb hx => by have h1 := (fun (b : Nat) (hb : ug ≤ b ∧ b < wg.heap.size) => hb) b hx; have h2 := ORD.out; have h3 := (fun (b : Nat) (hb : u1 ≤ b ∧ b < wx1.heap.size) => hb) b hb; omega), (hF.block _ (Array.getElem?_eq_some_iff.1 h.2.2.2.2.2.1).1 (fun hx => by have h1 := (fun (b : Nat) (hb : ug ≤ b ∧ b < wg.heap.size) => hb) _ hx; have h2 := ORD.out; omega)).trans h.2.2.2.2.2.1, h.2.2.2.2.2.2.1.frm hF (fun b hb hx => by have h1 := (fun (b : Nat) (hb : ug ≤ b ∧ b < wg.heap.size) => hb) b hx; have h2 := ORD.out; have h3 := (fun (b : Nat) (hb : u2 ≤ b ∧ b < wx2.heap.size) => hb) b hb; omega), ho0⟩
  refine (mkDAtomS R0 ga gc 1 (fun c => ug ≤ c ∧ c < wg.heap.size) _ HRB.out.1 (by omega) HRW.out (N6.out.2.2.2.2.2.2.2)).mono ?_
  rintro e wmg ⟨rfl, ho, hF⟩
  have N7 := Lib.hid (TGF.out _ _ N6.out hF ho)
  clear f_arg0_0 f_arg0_1 f_arg0_2 f_arg0_3 f_arg0_4 f_arg0_5 f_arg0_6 f_arg0_7 f_arg2_0 f_arg2_1 f_arg2_2 f_x2_0 f_x2_1 f_x2_2
  clear ho hF N6
  have TGL : Hid (∀ W W', (Below w.heap.size w W ∧ W.heap[w.heap.size]? = some (.cells #[.string ⟨x0.nm.toArray⟩, .int .i64 x0.k, .int .i64 x0.mn, .int .i64 x0.mx, .int .i64 x0.lo, .int .i64 x0.hi, .string ⟨x0.rf.toArray⟩, .bool x0.st] 23) ∧ W.heap[w.heap.size + 1]? = some (.cells #[.string ⟨x2.col.toArray⟩, .int .i64 x2.fn, .slice a2_2 x2.val.length c2_2] 26) ∧ Rd W (· < wc.heap.size) (dAtomS R0) (.slice ra R0.length rc) ∧ Own W ((dAtomS x1).mkd (1)) (fun c => u1 ≤ c ∧ c < wx1.heap.size) (.slice (some ⟨p1_, 0, none⟩) x1.length x1.length) ∧ W.heap[wx2.heap.size]? = some (.cells #[.string ⟨x2.col.toArray⟩, .int .i64 x2.fn, .slice (some ⟨p2_2, 0, none⟩) x2.val.length x2.val.length] 37) ∧ Own W ((dAtomS x2.val).mkd (k1)) (fun c => u2 ≤ c ∧ c < wx2.heap.size) (.slice (some ⟨p2_2, 0, none⟩) x2.val.length x2.val.length) ∧ Own W ((dAtomS R0).mkd 1) (fun c => ug ≤ c ∧ c < wg.heap.size) (.slice ga R0.length gc)) → Below W.heap.size W W' → (Below w.heap.size w W' ∧ W'.heap[w.heap.size]? = some (.cells #[.string ⟨x0.nm.toArray⟩, .int .i64 x0.k, .int .i64 x0.mn, .int .i64 x0.mx, .int .i64 x0.lo, .int .i64 x0.hi, .string ⟨x0.rf.toArray⟩, .bool x0.st] 23) ∧ W'.heap[w.heap.size + 1]? = some (.cells #[.string ⟨x2.col.toArray⟩, .int .i64 x2.fn, .slice a2_2 x2.val.length c2_2] 26) ∧ Rd W' (· < wc.heap.size) (dAtomS R0) (.slice ra R0.length rc) ∧ Own W' ((dAtomS x1).mkd (1)) (fun c => u1 ≤ c ∧ c < wx1.heap.size) (.slice (some ⟨p1_, 0, none⟩) x1.length x1.length) ∧ W'.heap[wx2.heap.size]? = some (.cells #[.string ⟨x2.col.toArray⟩, .int .i64 x2.fn, .slice (some ⟨p2_2, 0, none⟩) x2.val.length x2.val.length] 37) ∧ Own W' ((dAtomS x2.val).mkd (k1)) (fun c => u2 ≤ c ∧ c < wx2.heap.size) (.slice (some ⟨p2_2, 0, none⟩) x2.val.length x2.val.length) ∧ Own W' ((dAtomS R0).mkd 1) (fun c => ug ≤ c ∧ c < wg.heap.size) (.slice ga R0.length gc))) := fun W W' h hB => ⟨h.1.trans (hB.mono h.1.size), heap_keptD h.2.1 hB, heap_keptD h.2.2.1 hB, h.2.2.2.1.later hB, h.2.2.2.2.1.later hB, heap_keptD h.2.2.2.2.2.1 hB, h.2.2.2.2.2.2.1.later hB, h.2.2.2.2.2.2.2.later hB⟩
  have HD : Hid (∀ (W : World), Rd W (fun _ => True) ((dAtomS R0).mkd 1) (.slice ga R0.length gc) → Calls Try.prog 16 #[.slice ga R0.length gc, .int .i64 1] W fun e w' => e = .returned (.int .i64 (1 + (dAtomS R0).wd : Nat)) ∧ Below W.heap.size W w') := fun W h => hdDAtomS R0 ga gc 1 _ W HRB.out.1 (by omega) HRW.out h
  obtain ⟨kg, hkg⟩ : ∃ y : Nat, y = 1 + (dAtomS R0).wd := ⟨_, rfl⟩
  rw [← hkg] at HD ⊢
  have dkg : decide ((kg : Int) < 0) = false := by simp
  have nkg : ((kg : Int) != (kg : Int)) = false := by simp
  clear hkg
  have f_arg0_0 := cell_at (o := 0) N7.out.2.1 rfl
  have f_arg0_1 := cell_at (o := 1) N7.out.2.1 rfl
  have f_arg0_2 := cell_at (o := 2) N7.out.2.1 rfl
  have f_arg0_3 := cell_at (o := 3) N7.out.2.1 rfl
  have f_arg0_4 := cell_at (o := 4) N7.out.2.1 rfl
  have f_arg0_5 := cell_at (o := 5) N7.out.2.1 rfl
  have f_arg0_6 := cell_at (o := 6) N7.out.2.1 rfl
  have f_arg0_7 := cell_at (o := 7) N7.out.2.1 rfl
  have f_arg2_0 := cell_at (o := 0) N7.out.2.2.1 rfl
  have f_arg2_1 := cell_at (o := 1) N7.out.2.2.1 rfl
  have f_arg2_2 := cell_at (o := 2) N7.out.2.2.1 rfl
  have f_x2_0 := cell_at (o := 0) N7.out.2.2.2.2.2.1 rfl
  have f_x2_1 := cell_at (o := 1) N7.out.2.2.2.2.2.1 rfl
  have f_x2_2 := cell_at (o := 2) N7.out.2.2.2.2.2.1 rfl
  go_wp2_with fail
  refine (HD.out _ (Rd.any (Own.rd' (N7.out.2.2.2.2.2.2.2)))).mono ?_
  rintro e wh7 ⟨rfl, hB⟩
  have N8 := Lib.hid (TGL.out _ _ N7.out hB)
  clear f_arg0_0 f_arg0_1 f_arg0_2 f_arg0_3 f_arg0_4 f_arg0_5 f_arg0_6 f_arg0_7 f_arg2_0 f_arg2_1 f_arg2_2 f_x2_0 f_x2_1 f_x2_2
  clear hB N7
  have f_arg0_0 := cell_at (o := 0) N8.out.2.1 rfl
  have f_arg0_1 := cell_at (o := 1) N8.out.2.1 rfl
  have f_arg0_2 := cell_at (o := 2) N8.out.2.1 rfl
  have f_arg0_3 := cell_at (o := 3) N8.out.2.1 rfl
  have f_arg0_4 := cell_at (o := 4) N8.out.2.1 rfl
  have f_arg0_5 := cell_at (o := 5) N8.out.2.1 rfl
  have f_arg0_6 := cell_at (o := 6) N8.out.2.1 rfl
  have f_arg0_7 := cell_at (o := 7) N8.out.2.1 rfl
  have f_arg2_0 := cell_at (o := 0) N8.out.2.2.1 rfl
  have f_arg2_1 := cell_at (o := 1) N8.out.2.2.1 rfl
  have f_arg2_2 := cell_at (o := 2) N8.out.2.2.1 rfl
  have f_x2_0 := cell_at (o := 0) N8.out.2.2.2.2.2.1 rfl
  have f_x2_1 := cell_at (o := 1) N8.out.2.2.2.2.2.1 rfl
  have f_x2_2 := cell_at (o := 2) N8.out.2.2.2.2.2.1 rfl
  go_upto_region 34 with fail
  have HST : Hid (∀ W, Below wh7.heap.size wh7 W → (Below w.heap.size w W ∧ W.heap[w.heap.size]? = some (.cells #[.string ⟨x0.nm.toArray⟩, .int .i64 x0.k, .int .i64 x0.mn, .int .i64 x0.mx, .int .i64 x0.lo, .int .i64 x0.hi, .string ⟨x0.rf.toArray⟩, .bool x0.st] 23) ∧ W.heap[w.heap.size + 1]? = some (.cells #[.string ⟨x2.col.toArray⟩, .int .i64 x2.fn, .slice a2_2 x2.val.length c2_2] 26) ∧ Rd W (· < wc.heap.size) (dAtomS R0) (.slice ra R0.length rc) ∧ Own W ((dAtomS x1).mkd (1)) (fun c => u1 ≤ c ∧ c < wx1.heap.size) (.slice (some ⟨p1_, 0, none⟩) x1.length x1.length) ∧ W.heap[wx2.heap.size]? = some (.cells #[.string ⟨x2.col.toArray⟩, .int .i64 x2.fn, .slice (some ⟨p2_2, 0, none⟩) x2.val.length x2.val.length] 37) ∧ Own W ((dAtomS x2.val).mkd (k1)) (fun c => u2 ≤ c ∧ c < wx2.heap.size) (.slice (some ⟨p2_2, 0, none⟩) x2.val.length x2.val.length) ∧ Own W ((dAtomS R0).mkd 1) (fun c => ug ≤ c ∧ c < wg.heap.size) (.slice ga R0.length gc))) := fun W h => TGL.out _ _ N8.out h
  have CE : Hid (∀ W, (Below w.heap.size w W ∧ W.heap[w.heap.size]? = some (.cells #[.string ⟨x0.nm.toArray⟩, .int .i64 x0.k, .int .i64 x0.mn, .int .i64 x0.mx, .int .i64 x0.lo, .int .i64 x0.hi, .string ⟨x0.rf.toArray⟩, .bool x0.st] 23) ∧ W.heap[w.heap.size + 1]? = some (.cells #[.string ⟨x2.col.toArray⟩, .int .i64 x2.fn, .slice a2_2 x2.val.length c2_2] 26) ∧ Rd W (· < wc.heap.size) (dAtomS R0) (.slice ra R0.length rc) ∧ Own W ((dAtomS x1).mkd (1)) (fun c => u1 ≤ c ∧ c < wx1.heap.size) (.slice (some ⟨p1_, 0, none⟩) x1.length x1.length) ∧ W.heap[wx2.heap.size]? = some (.cells #[.string ⟨x2.col.toArray⟩, .int .i64 x2.fn, .slice (some ⟨p2_2, 0, none⟩) x2.val.length x2.val.length] 37) ∧ Own W ((dAtomS x2.val).mkd (k1)) (fun c => u2 ≤ c ∧ c < wx2.heap.size) (.slice (some ⟨p2_2, 0, none⟩) x2.val.length x2.val.length) ∧ Own W ((dAtomS R0).mkd 1) (fun c => ug ≤ c ∧ c < wg.heap.size) (.slice ga R0.length gc)) → (W.cell? ⟨w.heap.size, 0, none⟩ = some (.string ⟨x0.nm.toArray⟩) ∧ W.cell? ⟨w.heap.size, 1, none⟩ = some (.int .i64 x0.k) ∧ W.cell? ⟨w.heap.size, 2, none⟩ = some (.int .i64 x0.mn) ∧ W.cell? ⟨w.heap.size, 3, none⟩ = some (.int .i64 x0.mx) ∧ W.cell? ⟨w.heap.size, 4, none⟩ = some (.int .i64 x0.lo) ∧ W.cell? ⟨w.heap.size, 5, none⟩ = some (.int .i64 x0.hi) ∧ W.cell? ⟨w.heap.size, 6, none⟩ = some (.string ⟨x0.rf.toArray⟩) ∧ W.cell? ⟨w.heap.size, 7, none⟩ = some (.bool x0.st) ∧ W.cell? ⟨w.heap.size + 1, 0, none⟩ = some (.string ⟨x2.col.toArray⟩) ∧ W.cell? ⟨w.heap.size + 1, 1, none⟩ = some (.int .i64 x2.fn) ∧ W.cell? ⟨w.heap.size + 1, 2, none⟩ = some (.slice a2_2 x2.val.length c2_2))) := fun W h => ⟨cell_at (o := 0) h.2.1 rfl, cell_at (o := 1) h.2.1 rfl, cell_at (o := 2) h.2.1 rfl, cell_at (o := 3) h.2.1 rfl, cell_at (o := 4) h.2.1 rfl, cell_at (o := 5) h.2.1 rfl, cell_at (o := 6) h.2.1 rfl, cell_at (o := 7) h.2.1 rfl, cell_at (o := 0) h.2.2.1 rfl, cell_at (o := 1) h.2.2.1 rfl, cell_at (o := 2) h.2.2.1 rfl⟩
  have HSX : Hid (∀ W, (Below w.heap.size w W ∧ W.heap[w.heap.size]? = some (.cells #[.string ⟨x0.nm.toArray⟩, .int .i64 x0.k, .int .i64 x0.mn, .int .i64 x0.mx, .int .i64 x0.lo, .int .i64 x0.hi, .string ⟨x0.rf.toArray⟩, .bool x0.st] 23) ∧ W.heap[w.heap.size + 1]? = some (.cells #[.string ⟨x2.col.toArray⟩, .int .i64 x2.fn, .slice a2_2 x2.val.length c2_2] 26) ∧ Rd W (· < wc.heap.size) (dAtomS R0) (.slice ra R0.length rc) ∧ Own W ((dAtomS x1).mkd (1)) (fun c => u1 ≤ c ∧ c < wx1.heap.size) (.slice (some ⟨p1_, 0, none⟩) x1.length x1.length) ∧ W.heap[wx2.heap.size]? = some (.cells #[.string ⟨x2.col.toArray⟩, .int .i64 x2.fn, .slice (some ⟨p2_2, 0, none⟩) x2.val.length x2.val.length] 37) ∧ Own W ((dAtomS x2.val).mkd (k1)) (fun c => u2 ≤ c ∧ c < wx2.heap.size) (.slice (some ⟨p2_2, 0, none⟩) x2.val.length x2.val.length) ∧ Own W ((dAtomS R0).mkd 1) (fun c => ug ≤ c ∧ c < wg.heap.size) (.slice ga R0.length gc)) → (Below w.heap.size w W ∧ W.heap[w.heap.size]? = some (.cells #[.string ⟨x0.nm.toArray⟩, .int .i64 x0.k, .int .i64 x0.mn, .int .i64 x0.mx, .int .i64 x0.lo, .int .i64 x0.hi, .string ⟨x0.rf.toArray⟩, .bool x0.st] 23) ∧ W.heap[w.heap.size + 1]? = some (.cells #[.string ⟨x2.col.toArray⟩, .int .i64 x2.fn, .slice a2_2 x2.val.length c2_2] 26))) := fun W h => ⟨h.1, h.2.1, h.2.2.1⟩
  clear N8 f_arg0_0 f_arg0_1 f_arg0_2 f_arg0_3 f_arg0_4 f_arg0_5 f_arg0_6 f_arg0_7 f_arg2_0 f_arg2_1 f_arg2_2 f_x2_0 f_x2_1 f_x2_2
  go_cut [17, 18] from 105 to 114 (fun s0 s1 wx => ∃ (ya : Option Addr) (yc : Nat), s0 = .slice ya R0.length yc ∧ s1 = .int .i64 R1 ∧ Hid ((Below w.heap.size w wx ∧ wx.heap[w.heap.size]? = some (.cells #[.string ⟨x0.nm.toArray⟩, .int .i64 x0.k, .int .i64 x0.mn, .int .i64 x0.mx, .int .i64 x0.lo, .int .i64 x0.hi, .string ⟨x0.rf.toArray⟩, .bool x0.st] 23) ∧ wx.heap[w.heap.size + 1]? = some (.cells #[.string ⟨x2.col.toArray⟩, .int .i64 x2.fn, .slice a2_2 x2.val.length c2_2] 26) ∧ Rd wx (· < wc.heap.size) (dAtomS R0) (.slice ra R0.length rc) ∧ Own wx ((dAtomS x1).mkd (1)) (fun c => u1 ≤ c ∧ c < wx1.heap.size) (.slice (some ⟨p1_, 0, none⟩) x1.length x1.length) ∧ wx.heap[wx2.heap.size]? = some (.cells #[.string ⟨x2.col.toArray⟩, .int .i64 x2.fn, .slice (some ⟨p2_2, 0, none⟩) x2.val.length x2.val.length] 37) ∧ Own wx ((dAtomS x2.val).mkd (k1)) (fun c => u2 ≤ c ∧ c < wx2.heap.size) (.slice (some ⟨p2_2, 0, none⟩) x2.val.length x2.val.length) ∧ Own wx ((dAtomS R0).mkd 1) (fun c => ug ≤ c ∧ c < wg.heap.size) (.slice ga R0.length gc)) ∧ True ∧ Rd wx (fun _ => True) (dAtomS R0) (.slice ya R0.length yc)))
  case first =>
    have BS : Hid (Below wh7.heap.size wh7 wh7) := Below.refl _ _
    refine wp_region_held_drew (S := (fun W => W.cell? ⟨w.heap.size, 0, none⟩ = some (.string ⟨x0.nm.toArray⟩) ∧ W.cell? ⟨w.heap.size, 1, none⟩ = some (.int .i64 x0.k) ∧ W.cell? ⟨w.heap.size, 2, none⟩ = some (.int .i64 x0.mn) ∧ W.cell? ⟨w.heap.size, 3, none⟩ = some (.int .i64 x0.mx) ∧ W.cell? ⟨w.heap.size, 4, none⟩ = some (.int .i64 x0.lo) ∧ W.cell? ⟨w.heap.size, 5, none⟩ = some (.int .i64 x0.hi) ∧ W.cell? ⟨w.heap.size, 6, none⟩ = some (.string ⟨x0.rf.toArray⟩) ∧ W.cell? ⟨w.heap.size, 7, none⟩ = some (.bool x0.st) ∧ W.cell? ⟨w.heap.size + 1, 0, none⟩ = some (.string ⟨x2.col.toArray⟩) ∧ W.cell? ⟨w.heap.size + 1, 1, none⟩ = some (.int .i64 x2.fn) ∧ W.cell? ⟨w.heap.size + 1, 2, none⟩ = some (.slice a2_2 x2.val.length c2_2))) (by kernel_rfl) ?_ (fun hHeld => ?_)
    · (first | exact CE.out _ (HST.out _ BS.out) | exact CE.out _ (HST.out _ BS.out.drew))
    refine wpAnyH_take (i := 0) (v := ?_) rfl (by kernel_rfl) (by kernel_rfl) (by kernel_rfl) (fun _ _ _ h => h) (Or.inl ⟨by kernel_rfl, ?_⟩) (by assumption) ?_
    rotate_left
    · (intro wS hSw; (try dsimp only at hSw); go_simp <;> with_reducible rfl)
    try simp only [Act.put, tkS]
    refine wpAnyH_take (i := 2) (v := ?_) rfl (by kernel_rfl) (by kernel_rfl) (by kernel_rfl) (fun _ _ _ h => h) (Or.inl ⟨by kernel_rfl, ?_⟩) (by assumption) ?_
    rotate_left
    · (intro wS hSw; (try dsimp only at hSw); go_simp <;> with_reducible rfl)
    try simp only [Act.put, tkS]
    refine wpAnyH_take (i := 4) (v := ?_) rfl (by kernel_rfl) (by kernel_rfl) (by kernel_rfl) (fun _ _ _ h => h) (Or.inl ⟨by kernel_rfl, ?_⟩) (by assumption) ?_
    rotate_left
    · (intro wS hSw; (try dsimp only at hSw); go_simp <;> with_reducible rfl)
    try simp only [Act.put, tkS]
    refine wpAnyH_ready (rs := [1]) (by kernel_rfl) (by simp) (AllReadyH.cons rfl (fun K hK => ?_) AllReadyH.nil)
    go_simp
    go_at_call 8
    refine (TO0.out _ (by first | exact HSX.out _ (HST.out _ BS.out) | exact HSX.out _ (HST.out _ BS.out.drew))).mono ?_
    rintro e wt0 ⟨rfl, hB, -⟩
    have hb : Below wh7.heap.size wh7 wt0 := by first | exact hB | exact (Below.refl _ _).drew.trans hB
    have BS' : Hid (Below wh7.heap.size wh7 wt0) := BS.out.trans (hb.mono BS.out.size)
    clear BS
    have BS := BS'
    clear BS'
    have BC0 : Hid (Below wt0.heap.size wt0 wt0) := Below.refl _ _
    clear hb hB
    refine hK.out _ _ ?_ (fun hHeld => ?_)
    · (first | exact CE.out _ (HST.out _ BS.out) | exact CE.out _ (HST.out _ BS.out.drew))
    clear hK K
    try simp only [Act.put, tkS]
    refine wpAnyH_ready (rs := [3]) (by kernel_rfl) (by simp) (AllReadyH.cons rfl (fun K hK => ?_) AllReadyH.nil)
    go_simp
    go_at_call 9
    refine (TO1.out _ (by first | exact HSX.out _ (HST.out _ BS.out) | exact HSX.out _ (HST.out _ BS.out.drew))).mono ?_
    rintro e wt1 ⟨p1_, rfl, ho, hB, -⟩
    have hb : Below wt0.heap.size wt0 wt1 := by first | exact hB | exact (Below.refl _ _).drew.trans hB
    have BS' : Hid (Below wh7.heap.size wh7 wt1) := BS.out.trans (hb.mono BS.out.size)
    clear BS
    have BS := BS'
    clear BS'
    have BC0' : Hid (Below wt0.heap.size wt0 wt1) := BC0.out.trans (hb.mono BC0.out.size)
    clear BC0
    have BC0 := BC0'
    clear BC0'
    have RC1_ : Hid (∀ W, Below wt1.heap.size wt1 W → Rd W (fun _ => True) (dAtomS x1) (.slice (some ⟨p1_, 0, none⟩) x1.length x1.length)) := fun W h => Rd.later (ho.rd'.any) h
    have BC1 : Hid (Below wt1.heap.size wt1 wt1) := Below.refl _ _
    clear hb hB ho
    refine hK.out _ _ ?_ (fun hHeld => ?_)
    · (first | exact CE.out _ (HST.out _ BS.out) | exact CE.out _ (HST.out _ BS.out.drew))
    clear hK K
    try simp only [Act.put, tkS]
    refine wpAnyH_ready (rs := [5]) (by kernel_rfl) (by simp) (AllReadyH.cons rfl (fun K hK => ?_) AllReadyH.nil)
    go_simp
    go_at_call 10
    refine (TO2.out _ (by first | exact HSX.out _ (HST.out _ BS.out) | exact HSX.out _ (HST.out _ BS.out.drew))).mono ?_
    rintro e wt2 ⟨p2_2, rfl, ho, hB, -⟩
    have hb : Below wt1.heap.size wt1 wt2 := by first | exact hB | exact (Below.refl _ _).drew.trans hB
    have BS' : Hid (Below wh7.heap.size wh7 wt2) := BS.out.trans (hb.mono BS.out.size)
    clear BS
    have BS := BS'
    clear BS'
    have BC0' : Hid (Below wt0.heap.size wt0 wt2) := BC0.out.trans (hb.mono BC0.out.size)
    clear BC0
    have BC0 := BC0'
    clear BC0'
    have BC1' : Hid (Below wt1.heap.size wt1 wt2) := BC1.out.trans (hb.mono BC1.out.size)
    clear BC1
    have BC1 := BC1'
    clear BC1'
    have RC2_2 : Hid (∀ W, Below wt2.heap.size wt2 W → Rd W (fun _ => True) (dAtomS x2.val) (.slice (some ⟨p2_2, 0, none⟩) x2.val.length x2.val.length)) := fun W h => Rd.later ((Owns.one ho (j := 2) (by omega)).rd'.any) h
    have BC2 : Hid (Below wt2.heap.size wt2 wt2) := Below.refl _ _
    clear hb hB ho
    refine hK.out _ _ ?_ (fun hHeld => ?_)
    · (first | exact CE.out _ (HST.out _ BS.out) | exact CE.out _ (HST.out _ BS.out.drew))
    clear hK K
    try simp only [Act.put, tkS]
    refine wpAnyH_ready (rs := [6]) (by kernel_rfl) (by simp) (AllReadyH.cons rfl (fun K hK => ?_) AllReadyH.nil)
    go_simp
    go_at_call 11
    refine (CI.out _ _ _ _ _ (by first | exact RC1_.out _ BC1.out | exact RC1_.out _ BC1.out.drew) (by first | exact RC2_2.out _ BC2.out | exact RC2_2.out _ BC2.out.drew)).mono ?_
    rintro e w2 ⟨ya, yc, rfl, hr2, hB⟩
    replace hr2 := Own.rd' hr2
    have hb : Below wt2.heap.size wt2 w2 := by first | exact hB | exact (Below.refl _ _).drew.trans hB
    have BS' : Hid (Below wh7.heap.size wh7 w2) := BS.out.trans (hb.mono BS.out.size)
    clear BS
    have BS := BS'
    clear BS'
    have BC0' : Hid (Below wt0.heap.size wt0 w2) := BC0.out.trans (hb.mono BC0.out.size)
    clear BC0
    have BC0 := BC0'
    clear BC0'
    have BC1' : Hid (Below wt1.heap.size wt1 w2) := BC1.out.trans (hb.mono BC1.out.size)
    clear BC1
    have BC1 := BC1'
    clear BC1'
    have BC2' : Hid (Below wt2.heap.size wt2 w2) := BC2.out.trans (hb.mono BC2.out.size)
    clear BC2
    have BC2 := BC2'
    clear BC2'
    have HR2 : Hid (Rd w2 (fun b => wt2.heap.size ≤ b ∧ b < w2.heap.size) (dAtomS R0) (.slice ya R0.length yc)) := by first | exact hr2 | (simpa using hr2)
    clear hb hB hr2
    refine hK.out _ _ ?_ (fun hHeld => ?_)
    · (first | exact CE.out _ (HST.out _ BS.out) | exact CE.out _ (HST.out _ BS.out.drew))
    clear hK K
    try simp only [Act.put, tkS]
    refine wpAnyH_take (i := 7) (v := ?_) rfl (by kernel_rfl) (by kernel_rfl) (by kernel_rfl) (fun _ _ _ h => h) (Or.inl ⟨by kernel_rfl, ?_⟩) (by assumption) ?_
    rotate_left
    · (intro wS hSw; (try dsimp only at hSw); go_simp <;> with_reducible rfl)
    try simp only [Act.put, tkS]
    refine wpAnyH_take (i := 8) (v := ?_) rfl (by kernel_rfl) (by kernel_rfl) (by kernel_rfl) (fun _ _ _ h => h) (Or.inl ⟨by kernel_rfl, ?_⟩) (by assumption) ?_
    rotate_left
    · (intro wS hSw; (try dsimp only at hSw); go_simp <;> with_reducible rfl)
    try simp only [Act.put, tkS]
    refine wpAnyH_take (i := 9) (v := ?_) rfl (by kernel_rfl) (by kernel_rfl) (by kernel_rfl) (fun _ _ _ h => h) (Or.inl ⟨by kernel_rfl, ?_⟩) (by assumption) ?_
    rotate_left
    · (intro wS hSw; (try dsimp only at hSw); go_simp <;> with_reducible rfl)
    try simp only [Act.put, tkS]
    refine wpAnyH_take (i := 10) (v := ?_) rfl (by kernel_rfl) (by kernel_rfl) (by kernel_rfl) (fun _ _ _ h => h) (Or.inl ⟨by kernel_rfl, ?_⟩) (by assumption) ?_
    rotate_left
    · (intro wS hSw; (try dsimp only at hSw); go_simp <;> with_reducible rfl)
    try simp only [Act.put, tkS]
    refine wpAnyH_take (i := 11) (v := ?_) rfl (by kernel_rfl) (by kernel_rfl) (by kernel_rfl) (fun _ _ _ h => h) (Or.inl ⟨by kernel_rfl, ?_⟩) (by assumption) ?_
    rotate_left
    · (intro wS hSw; (try dsimp only at hSw); go_simp <;> with_reducible rfl)
    try simp only [Act.put, tkS]
    refine wpAnyH_done (by kernel_rfl) ?_ _
    have HF := Lib.hid (HST.out _ BS.out)
    go_wp2_with fail
    go_meet
    exact ⟨ya, yc, rfl, rfl, HF.out, trivial, HR2.out.mono (fun _ _ => trivial)⟩
  obtain ⟨ya, yc, rfl, rfl, HCUT⟩ := hcut
  have N9 := Lib.hid HCUT.out.1
  have BH := Lib.hid HCUT.out.2
  clear HCUT HST CE HSX
  have f_arg0_0 := cell_at (o := 0) N9.out.2.1 rfl
  have f_arg0_1 := cell_at (o := 1) N9.out.2.1 rfl
  have f_arg0_2 := cell_at (o := 2) N9.out.2.1 rfl
  have f_arg0_3 := cell_at (o := 3) N9.out.2.1 rfl
  have f_arg0_4 := cell_at (o := 4) N9.out.2.1 rfl
  have f_arg0_5 := cell_at (o := 5) N9.out.2.1 rfl
  have f_arg0_6 := cell_at (o := 6) N9.out.2.1 rfl
  have f_arg0_7 := cell_at (o := 7) N9.out.2.1 rfl
  have f_arg2_0 := cell_at (o := 0) N9.out.2.2.1 rfl
  have f_arg2_1 := cell_at (o := 1) N9.out.2.2.1 rfl
  have f_arg2_2 := cell_at (o := 2) N9.out.2.2.1 rfl
  have f_x2_0 := cell_at (o := 0) N9.out.2.2.2.2.2.1 rfl
  have f_x2_1 := cell_at (o := 1) N9.out.2.2.2.2.2.1 rfl
  have f_x2_2 := cell_at (o := 2) N9.out.2.2.2.2.2.1 rfl
  go_wp2_with fail
  refine (EQR.out _ _ _ _ _ BH.out.2 (Rd.any (N9.out.2.2.2.1))).mono ?_
  rintro e wv ⟨rfl, hB⟩
  have N10 := Lib.hid (TGL.out _ _ N9.out hB)
  clear f_arg0_0 f_arg0_1 f_arg0_2 f_arg0_3 f_arg0_4 f_arg0_5 f_arg0_6 f_arg0_7 f_arg2_0 f_arg2_1 f_arg2_2 f_x2_0 f_x2_1 f_x2_2
  clear hB N9
  have f_arg0_0 := cell_at (o := 0) N10.out.2.1 rfl
  have f_arg0_1 := cell_at (o := 1) N10.out.2.1 rfl
  have f_arg0_2 := cell_at (o := 2) N10.out.2.1 rfl
  have f_arg0_3 := cell_at (o := 3) N10.out.2.1 rfl
  have f_arg0_4 := cell_at (o := 4) N10.out.2.1 rfl
  have f_arg0_5 := cell_at (o := 5) N10.out.2.1 rfl
  have f_arg0_6 := cell_at (o := 6) N10.out.2.1 rfl
  have f_arg0_7 := cell_at (o := 7) N10.out.2.1 rfl
  have f_arg2_0 := cell_at (o := 0) N10.out.2.2.1 rfl
  have f_arg2_1 := cell_at (o := 1) N10.out.2.2.1 rfl
  have f_arg2_2 := cell_at (o := 2) N10.out.2.2.1 rfl
  have f_x2_0 := cell_at (o := 0) N10.out.2.2.2.2.2.1 rfl
  have f_x2_1 := cell_at (o := 1) N10.out.2.2.2.2.2.1 rfl
  have f_x2_2 := cell_at (o := 2) N10.out.2.2.2.2.2.1 rfl
  go_wp2_with fail
  refine (HD.out _ (Rd.any (Own.rd' (N10.out.2.2.2.2.2.2.2)))).mono ?_
  rintro e wh10 ⟨rfl, hB⟩
  have N11 := Lib.hid (TGL.out _ _ N10.out hB)
  clear f_arg0_0 f_arg0_1 f_arg0_2 f_arg0_3 f_arg0_4 f_arg0_5 f_arg0_6 f_arg0_7 f_arg2_0 f_arg2_1 f_arg2_2 f_x2_0 f_x2_1 f_x2_2
  clear hB N10
  have f_arg0_0 := cell_at (o := 0) N11.out.2.1 rfl
  have f_arg0_1 := cell_at (o := 1) N11.out.2.1 rfl
  have f_arg0_2 := cell_at (o := 2) N11.out.2.1 rfl
  have f_arg0_3 := cell_at (o := 3) N11.out.2.1 rfl
  have f_arg0_4 := cell_at (o := 4) N11.out.2.1 rfl
  have f_arg0_5 := cell_at (o := 5) N11.out.2.1 rfl
  have f_arg0_6 := cell_at (o := 6) N11.out.2.1 rfl
  have f_arg0_7 := cell_at (o := 7) N11.out.2.1 rfl
  have f_arg2_0 := cell_at (o := 0) N11.out.2.2.1 rfl
  have f_arg2_1 := cell_at (o := 1) N11.out.2.2.1 rfl
  have f_arg2_2 := cell_at (o := 2) N11.out.2.2.1 rfl
  have f_x2_0 := cell_at (o := 0) N11.out.2.2.2.2.2.1 rfl
  have f_x2_1 := cell_at (o := 1) N11.out.2.2.2.2.2.1 rfl
  have f_x2_2 := cell_at (o := 2) N11.out.2.2.2.2.2.1 rfl
  go_wp2_with fail
  go_ret
  exact ⟨rfl, N11.out.1⟩
end Go.Proofs.Ytpigpidfpafcgaa
