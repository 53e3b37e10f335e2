import Derived.Test.YtplkmffoldbinaaGreatZbv
import Derived.Test.YtplkmffoldbinaaGreatZbw
import Derived.Test.YtplkmffoldbinaaGreatZby
import Derived.Deep.RegionHeld3
import Derived.Deep.CutRange
import Derived.Test.YtplkmffoldbinaaGreatZTk
namespace Go.Proofs.YtplkmffoldbinaaGreat
open Go.RowKit
set_option linter.unusedSimpArgs false
set_option maxRecDepth 100000 in
set_option maxHeartbeats 12800000 in
theorem lawMutateRow (x0 : Tb) (x1 : RowV) (x2 : List MutV) (a0_1 : Option Addr) (c0_1 : Nat) (a0_2 : Option Addr) (c0_2 : Nat) (a1_1 : Option Addr) (c1_1 : Nat) (a2_ : Option Addr) (c2_ : Nat) (w : World) (l0_1 : (dColumnS x0.cols).le maxLen) (l0_2 : (dIntS x0.uq).le maxLen) (l1_1 : (dAtomSS x1.cells).le maxLen) (l2_ : (dMutS x2).le maxLen) (l0_0 : x0.nm.length ≤ maxLen) (l1_0 : iOK x1.id) (r0_1 : Rd w (· < w.heap.size) (dColumnS x0.cols) (.slice a0_1 x0.cols.length c0_1)) (r0_2 : Rd w (· < w.heap.size) (dIntS x0.uq) (.slice a0_2 x0.uq.length c0_2)) (r1_1 : Rd w (· < w.heap.size) (dAtomSS x1.cells) (.slice a1_1 x1.cells.length c1_1)) (r2_ : Rd w (· < w.heap.size) (dMutS x2) (.slice a2_ x2.length c2_)) :
    Calls Tryz.prog 3 #[.agg #[.string ⟨x0.nm.toArray⟩, .slice a0_1 x0.cols.length c0_1, .slice a0_2 x0.uq.length c0_2, .bool x0.rt], .agg #[.int .i64 x1.id, .slice a1_1 x1.cells.length c1_1], .slice a2_ x2.length c2_] w fun e w' => e = .returned (.bool true) ∧ Below w.heap.size w w' := by
  have HL0_1 := Lib.hid l0_1
  have HL0_2 := Lib.hid l0_2
  have HO0 : Hid (∀ j, j < 4 → (dTable x0 j).le maxLen) := fun j hj => by
    rcases (by omega : j = 0 ∨ j = 1 ∨ j = 2 ∨ j = 3) with rfl | rfl | rfl | rfl
    · exact l0_0
    · exact l0_1
    · exact l0_2
    · exact trivial
  have RA0_1 : Hid (∀ W, Below w.heap.size w W → Rd W (· < w.heap.size) (dColumnS x0.cols) (.slice a0_1 x0.cols.length c0_1)) := fun W h => Rd.same (fun b hb => h.block b hb) (fun _ h => h) _ _ r0_1
  have RA0_2 : Hid (∀ W, Below w.heap.size w W → Rd W (· < w.heap.size) (dIntS x0.uq) (.slice a0_2 x0.uq.length c0_2)) := fun W h => Rd.same (fun b hb => h.block b hb) (fun _ h => h) _ _ r0_2
  have HL1_1 := Lib.hid l1_1
  have HO1 : Hid (∀ j, j < 2 → (dRow x1 j).le maxLen) := fun j hj => by
    rcases (by omega : j = 0 ∨ j = 1) with rfl | rfl
    · exact l1_0
    · exact l1_1
  have RA1_1 : Hid (∀ W, Below w.heap.size w W → Rd W (· < w.heap.size) (dAtomSS x1.cells) (.slice a1_1 x1.cells.length c1_1)) := fun W h => Rd.same (fun b hb => h.block b hb) (fun _ h => h) _ _ r1_1
  have HL2_ := Lib.hid l2_
  have HO2 := Lib.hid l2_
  have RA2_ : Hid (∀ W, Below w.heap.size w W → Rd W (· < w.heap.size) (dMutS x2) (.slice a2_ x2.length c2_)) := fun W h => Rd.same (fun b hb => h.block b hb) (fun _ h => h) _ _ r2_
  have ALAT : Hid (∀ W W', (Below w.heap.size w W ∧ W.heap[w.heap.size]? = some (.cells #[.string ⟨x0.nm.toArray⟩, .slice a0_1 x0.cols.length c0_1, .slice a0_2 x0.uq.length c0_2, .bool x0.rt] 25) ∧ W.heap[w.heap.size + 1]? = some (.cells #[.int .i64 x1.id, .slice a1_1 x1.cells.length c1_1] 28)) → Below W.heap.size W W' → (Below w.heap.size w W' ∧ W'.heap[w.heap.size]? = some (.cells #[.string ⟨x0.nm.toArray⟩, .slice a0_1 x0.cols.length c0_1, .slice a0_2 x0.uq.length c0_2, .bool x0.rt] 25) ∧ W'.heap[w.heap.size + 1]? = some (.cells #[.int .i64 x1.id, .slice a1_1 x1.cells.length c1_1] 28))) := fun W W' h hB => ⟨h.1.trans (hB.mono h.1.size), heap_keptD h.2.1 hB, heap_keptD h.2.2 hB⟩
  have A0 : Hid (Below w.heap.size w ((w.alloc (.cells #[.string ⟨x0.nm.toArray⟩, .slice a0_1 x0.cols.length c0_1, .slice a0_2 x0.uq.length c0_2, .bool x0.rt] 25)).alloc (.cells #[.int .i64 x1.id, .slice a1_1 x1.cells.length c1_1] 28)) ∧ ((w.alloc (.cells #[.string ⟨x0.nm.toArray⟩, .slice a0_1 x0.cols.length c0_1, .slice a0_2 x0.uq.length c0_2, .bool x0.rt] 25)).alloc (.cells #[.int .i64 x1.id, .slice a1_1 x1.cells.length c1_1] 28)).heap[w.heap.size]? = some (.cells #[.string ⟨x0.nm.toArray⟩, .slice a0_1 x0.cols.length c0_1, .slice a0_2 x0.uq.length c0_2, .bool x0.rt] 25) ∧ ((w.alloc (.cells #[.string ⟨x0.nm.toArray⟩, .slice a0_1 x0.cols.length c0_1, .slice a0_2 x0.uq.length c0_2, .bool x0.rt] 25)).alloc (.cells #[.int .i64 x1.id, .slice a1_1 x1.cells.length c1_1] 28)).heap[w.heap.size + 1]? = some (.cells #[.int .i64 x1.id, .slice a1_1 x1.cells.length c1_1] 28)) := by
    refine ⟨(below_allocD _ _).trans ((below_allocD _ _).mono (by simp)), heap_keptD (heap_newD _ _) (below_allocD _ _), ?_⟩
    have h := heap_newD (w.alloc (.cells #[.string ⟨x0.nm.toArray⟩, .slice a0_1 x0.cols.length c0_1, .slice a0_2 x0.uq.length c0_2, .bool x0.rt] 25)) (.cells #[.int .i64 x1.id, .slice a1_1 x1.cells.length c1_1] 28)
    rw [size_allocD] at h
    exact h
  clear l0_1 r0_1 l0_2 r0_2 l1_1 r1_1 l2_ r2_ l1_0
  have x0_0 := cell_at (o := 0) A0.out.2.1 rfl
  have x0_1 := cell_at (o := 1) A0.out.2.1 rfl
  have x0_2 := cell_at (o := 2) A0.out.2.1 rfl
  have x0_3 := cell_at (o := 3) A0.out.2.1 rfl
  have x1_0 := cell_at (o := 0) A0.out.2.2 rfl
  have x1_1 := cell_at (o := 1) A0.out.2.2 rfl
  go_enter Tryz.func3, Tryz.ntmps3
  go_wp2_with fail
  have bl : Hid ((0 : Int) ≤ 1048576 ∧ (1048576 : Int) ≤ 1048576) := by show _ ∧ _; omega
  refine (szDTable x0 a0_1 c0_1 a0_2 c0_2 1048576 _ _ bl.out.1 bl.out.2 HO0.out (RA0_1.out _ A0.out.1) (RA0_2.out _ A0.out.1)).mono ?_
  rintro e ws0 ⟨rfl, hB⟩
  have AS0 := Lib.hid (ALAT.out _ _ A0.out hB)
  clear hB A0 x0_0 x0_1 x0_2 x0_3 x1_0 x1_1
  have x0_0 := cell_at (o := 0) AS0.out.2.1 rfl
  have x0_1 := cell_at (o := 1) AS0.out.2.1 rfl
  have x0_2 := cell_at (o := 2) AS0.out.2.1 rfl
  have x0_3 := cell_at (o := 3) AS0.out.2.1 rfl
  have x1_0 := cell_at (o := 0) AS0.out.2.2 rfl
  have x1_1 := cell_at (o := 1) AS0.out.2.2 rfl
  by_cases hz0 : (1048576 : Int) - (szT 4 (dTable x0) : Int) < 0
  case pos =>
    rw [less_no hz0]
    go_wp2_with fail
    go_ret
    exact ⟨rfl, AS0.out.1⟩
  rw [less_yes (by omega)]
  obtain ⟨L0, hL0⟩ : ∃ L0 : Int, L0 = 1048576 - (szT 4 (dTable x0) : Int) := ⟨_, rfl⟩
  rw [← hL0]
  have dL0 : decide (L0 < 0) = false := decide_eq_false (by omega)
  have HZ0 : Hid (szT 4 (dTable x0) ≤ 1048576) := by have := bl.out; show _ ≤ _; omega
  have b2 : Hid (0 ≤ L0 ∧ L0 ≤ 1048576) := by have := bl.out; show _ ∧ _; omega
  clear hz0 hL0 bl
  have bl := b2
  clear b2
  go_wp2_with fail
  refine (szDRow x1 a1_1 c1_1 L0 _ _ bl.out.1 bl.out.2 HO1.out (RA1_1.out _ AS0.out.1)).mono ?_
  rintro e ws1 ⟨rfl, hB⟩
  have AS1 := Lib.hid (ALAT.out _ _ AS0.out hB)
  clear hB AS0 x0_0 x0_1 x0_2 x0_3 x1_0 x1_1
  have x0_0 := cell_at (o := 0) AS1.out.2.1 rfl
  have x0_1 := cell_at (o := 1) AS1.out.2.1 rfl
  have x0_2 := cell_at (o := 2) AS1.out.2.1 rfl
  have x0_3 := cell_at (o := 3) AS1.out.2.1 rfl
  have x1_0 := cell_at (o := 0) AS1.out.2.2 rfl
  have x1_1 := cell_at (o := 1) AS1.out.2.2 rfl
  by_cases hz1 : L0 - (szT 2 (dRow x1) : Int) < 0
  case pos =>
    rw [less_no hz1]
    go_wp2_with fail
    go_ret
    exact ⟨rfl, AS1.out.1⟩
  rw [less_yes (by omega)]
  obtain ⟨L1, hL1⟩ : ∃ L1 : Int, L1 = L0 - (szT 2 (dRow x1) : Int) := ⟨_, rfl⟩
  rw [← hL1]
  have dL1 : decide (L1 < 0) = false := decide_eq_false (by omega)
  have HZ1 : Hid (szT 2 (dRow x1) ≤ 1048576) := by have := bl.out; show _ ≤ _; omega
  have b2 : Hid (0 ≤ L1 ∧ L1 ≤ 1048576) := by have := bl.out; show _ ∧ _; omega
  clear hz1 hL1 bl
  have bl := b2
  clear b2
  go_wp2_with fail
  refine (szDMutS x2 a2_ c2_ L1 _ _ bl.out.1 bl.out.2 HO2.out (RA2_.out _ AS1.out.1)).mono ?_
  rintro e ws2 ⟨rfl, hB⟩
  have AS2 := Lib.hid (ALAT.out _ _ AS1.out hB)
  clear hB AS1 x0_0 x0_1 x0_2 x0_3 x1_0 x1_1
  have x0_0 := cell_at (o := 0) AS2.out.2.1 rfl
  have x0_1 := cell_at (o := 1) AS2.out.2.1 rfl
  have x0_2 := cell_at (o := 2) AS2.out.2.1 rfl
  have x0_3 := cell_at (o := 3) AS2.out.2.1 rfl
  have x1_0 := cell_at (o := 0) AS2.out.2.2 rfl
  have x1_1 := cell_at (o := 1) AS2.out.2.2 rfl
  by_cases hz2 : L1 - ((dMutS x2).sz : Int) < 0
  case pos =>
    rw [less_no hz2]
    go_wp2_with fail
    go_ret
    exact ⟨rfl, AS2.out.1⟩
  rw [less_yes (by omega)]
  obtain ⟨L2, hL2⟩ : ∃ L2 : Int, L2 = L1 - ((dMutS x2).sz : Int) := ⟨_, rfl⟩
  rw [← hL2]
  have dL2 : decide (L2 < 0) = false := decide_eq_false (by omega)
  have HZ2 : Hid ((dMutS x2).sz ≤ 1048576) := by have := bl.out; show _ ≤ _; omega
  have b2 : Hid (0 ≤ L2 ∧ L2 ≤ 1048576) := by have := bl.out; show _ ∧ _; omega
  clear hz2 hL2 bl
  have bl := b2
  clear b2
  go_upto_region 11 with fail
  have HK0 : Hid (∀ j, j < 4 → (dTable x0 j).le 1048576) := fun j hj => D.le_of_sz _ (HO0.out j hj) (Nat.le_trans (sumN_le (g := fun j => (dTable x0 j).sz) hj) HZ0.out)
  have HK1 : Hid (∀ j, j < 2 → (dRow x1 j).le 1048576) := fun j hj => D.le_of_sz _ (HO1.out j hj) (Nat.le_trans (sumN_le (g := fun j => (dRow x1 j).sz) hj) HZ1.out)
  have HK2 : Hid ((dMutS x2).le 1048576) := D.le_of_sz _ HO2.out HZ2.out
  have TO0 : Hid (∀ W, (Below w.heap.size w W ∧ W.heap[w.heap.size]? = some (.cells #[.string ⟨x0.nm.toArray⟩, .slice a0_1 x0.cols.length c0_1, .slice a0_2 x0.uq.length c0_2, .bool x0.rt] 25) ∧ W.heap[w.heap.size + 1]? = some (.cells #[.int .i64 x1.id, .slice a1_1 x1.cells.length c1_1] 28)) → Calls Tryz.prog 8 #[.agg #[.string ⟨x0.nm.toArray⟩, .slice a0_1 x0.cols.length c0_1, .slice a0_2 x0.uq.length c0_2, .bool x0.rt]] W fun e w' => ∃ p1 : Nat, ∃ p2 : Nat, e = .returned (.agg #[.string ⟨x0.nm.toArray⟩, .slice (some ⟨p1, 0, none⟩) x0.cols.length x0.cols.length, .slice (some ⟨p2, 0, none⟩) x0.uq.length x0.uq.length, .bool x0.rt]) ∧ Owns w' 4 (dTable x0) (vat [.string ⟨x0.nm.toArray⟩, .slice (some ⟨p1, 0, none⟩) x0.cols.length x0.cols.length, .slice (some ⟨p2, 0, none⟩) x0.uq.length x0.uq.length, .bool x0.rt]) (fun c => W.heap.size ≤ c ∧ c < w'.heap.size) ∧ Below W.heap.size W w' ∧ (Below w.heap.size w w' ∧ w'.heap[w.heap.size]? = some (.cells #[.string ⟨x0.nm.toArray⟩, .slice a0_1 x0.cols.length c0_1, .slice a0_2 x0.uq.length c0_2, .bool x0.rt] 25) ∧ w'.heap[w.heap.size + 1]? = some (.cells #[.int .i64 x1.id, .slice a1_1 x1.cells.length c1_1] 28))) := fun W h => (toDTable x0 a0_1 c0_1 a0_2 c0_2 _ W HK0.out (RA0_1.out W h.1) (RA0_2.out W h.1)).mono (fun e w' ⟨p1, p2, he, ho, hB⟩ => ⟨p1, p2, he, ho, hB, ALAT.out _ _ h hB⟩)
  have TO1 : Hid (∀ W, (Below w.heap.size w W ∧ W.heap[w.heap.size]? = some (.cells #[.string ⟨x0.nm.toArray⟩, .slice a0_1 x0.cols.length c0_1, .slice a0_2 x0.uq.length c0_2, .bool x0.rt] 25) ∧ W.heap[w.heap.size + 1]? = some (.cells #[.int .i64 x1.id, .slice a1_1 x1.cells.length c1_1] 28)) → Calls Tryz.prog 9 #[.agg #[.int .i64 x1.id, .slice a1_1 x1.cells.length c1_1]] W fun e w' => ∃ p1 : Nat, e = .returned (.agg #[.int .i64 x1.id, .slice (some ⟨p1, 0, none⟩) x1.cells.length x1.cells.length]) ∧ Owns w' 2 (dRow x1) (vat [.int .i64 x1.id, .slice (some ⟨p1, 0, none⟩) x1.cells.length x1.cells.length]) (fun c => W.heap.size ≤ c ∧ c < w'.heap.size) ∧ Below W.heap.size W w' ∧ (Below w.heap.size w w' ∧ w'.heap[w.heap.size]? = some (.cells #[.string ⟨x0.nm.toArray⟩, .slice a0_1 x0.cols.length c0_1, .slice a0_2 x0.uq.length c0_2, .bool x0.rt] 25) ∧ w'.heap[w.heap.size + 1]? = some (.cells #[.int .i64 x1.id, .slice a1_1 x1.cells.length c1_1] 28))) := fun W h => (toDRow x1 a1_1 c1_1 _ W HK1.out (RA1_1.out W h.1)).mono (fun e w' ⟨p1, he, ho, hB⟩ => ⟨p1, he, ho, hB, ALAT.out _ _ h hB⟩)
  have TO2 : Hid (∀ W, (Below w.heap.size w W ∧ W.heap[w.heap.size]? = some (.cells #[.string ⟨x0.nm.toArray⟩, .slice a0_1 x0.cols.length c0_1, .slice a0_2 x0.uq.length c0_2, .bool x0.rt] 25) ∧ W.heap[w.heap.size + 1]? = some (.cells #[.int .i64 x1.id, .slice a1_1 x1.cells.length c1_1] 28)) → Calls Tryz.prog 10 #[.slice a2_ x2.length c2_] W fun e w' => ∃ p : Nat, e = .returned (.slice (some ⟨p, 0, none⟩) x2.length x2.length) ∧ Own w' (dMutS x2) (fun c => W.heap.size ≤ c ∧ c < w'.heap.size) (.slice (some ⟨p, 0, none⟩) x2.length x2.length) ∧ Below W.heap.size W w' ∧ (Below w.heap.size w w' ∧ w'.heap[w.heap.size]? = some (.cells #[.string ⟨x0.nm.toArray⟩, .slice a0_1 x0.cols.length c0_1, .slice a0_2 x0.uq.length c0_2, .bool x0.rt] 25) ∧ w'.heap[w.heap.size + 1]? = some (.cells #[.int .i64 x1.id, .slice a1_1 x1.cells.length c1_1] 28))) := fun W h => (toDMutS x2 a2_ c2_ _ W HK2.out (RA2_.out W h.1)).mono (fun e w' ⟨he, ho, hB⟩ => ⟨_, he, ho, hB, ALAT.out _ _ h hB⟩)
  obtain ⟨R0, hR0⟩ : ∃ r, r = mrR x0 x1 x2 := ⟨_, rfl⟩
  obtain ⟨R1, hR1⟩ : ∃ r, r = mrC x0 x1 x2 := ⟨_, rfl⟩
  have CS : Hid (∀ (W : World) (b0_1 : Option Addr) (e0_1 : Nat) (b0_2 : Option Addr) (e0_2 : Nat) (b1_1 : Option Addr) (e1_1 : Nat) (b2_ : Option Addr) (e2_ : Nat), Rd W (fun _ => True) (dColumnS x0.cols) (.slice b0_1 x0.cols.length e0_1) → Rd W (fun _ => True) (dIntS x0.uq) (.slice b0_2 x0.uq.length e0_2) → Rd W (fun _ => True) (dAtomSS x1.cells) (.slice b1_1 x1.cells.length e1_1) → Rd W (fun _ => True) (dMutS x2) (.slice b2_ x2.length e2_) → Calls Tryz.prog 7 #[.agg #[.string ⟨x0.nm.toArray⟩, .slice b0_1 x0.cols.length e0_1, .slice b0_2 x0.uq.length e0_2, .bool x0.rt], .agg #[.int .i64 x1.id, .slice b1_1 x1.cells.length e1_1], .slice b2_ x2.length e2_] W fun e w' => ∃ (ra : Option Addr) (rc : Nat), e = .returned (.tuple #[.agg #[.int .i64 R0.id, .slice ra R0.cells.length rc], .int .i64 R1]) ∧ Rd w' (fun c => W.heap.size ≤ c ∧ c < w'.heap.size) (dAtomSS R0.cells) (.slice ra R0.cells.length rc) ∧ Below W.heap.size W w') := fun W b0_1 e0_1 b0_2 e0_2 b1_1 e1_1 b2_ e2_ h0_1 h0_2 h1_1 h2_ => by rw [hR0, hR1]; exact mutRowS x0 b0_1 e0_1 b0_2 e0_2 _ x1 b1_1 e1_1 _ x2 b2_ e2_ _ W (le_table (HO0.out 0 (by omega)) HL0_1.out HL0_2.out) HK2.out (HK1.out 1 (by omega)) (Rd.hasT h0_1 h0_2) h1_1 h2_
  have CI : Hid (∀ (W : World) (b0_1 : Option Addr) (e0_1 : Nat) (b0_2 : Option Addr) (e0_2 : Nat) (b1_1 : Option Addr) (e1_1 : Nat) (b2_ : Option Addr) (e2_ : Nat), Rd W (fun _ => True) (dColumnS x0.cols) (.slice b0_1 x0.cols.length e0_1) → Rd W (fun _ => True) (dIntS x0.uq) (.slice b0_2 x0.uq.length e0_2) → Rd W (fun _ => True) (dAtomSS x1.cells) (.slice b1_1 x1.cells.length e1_1) → Rd W (fun _ => True) (dMutS x2) (.slice b2_ x2.length e2_) → Calls Tryz.prog 11 #[.agg #[.string ⟨x0.nm.toArray⟩, .slice b0_1 x0.cols.length e0_1, .slice b0_2 x0.uq.length e0_2, .bool x0.rt], .agg #[.int .i64 x1.id, .slice b1_1 x1.cells.length e1_1], .slice b2_ x2.length e2_] W fun e w' => ∃ (ra : Option Addr) (rc : Nat), e = .returned (.tuple #[.agg #[.int .i64 R0.id, .slice ra R0.cells.length rc], .int .i64 R1]) ∧ Own w' (dAtomSS R0.cells) (fun c => W.heap.size ≤ c ∧ c < w'.heap.size) (.slice ra R0.cells.length rc) ∧ Below W.heap.size W w') := fun W b0_1 e0_1 b0_2 e0_2 b1_1 e1_1 b2_ e2_ h0_1 h0_2 h1_1 h2_ => by rw [hR0, hR1]; exact mutRowI x0 b0_1 e0_1 b0_2 e0_2 _ x1 b1_1 e1_1 _ x2 b2_ e2_ _ W (le_table (HO0.out 0 (by omega)) HL0_1.out HL0_2.out) HK2.out (HK1.out 1 (by omega)) (Rd.hasT h0_1 h0_2) h1_1 h2_
  have HRB : Hid ((∀ j, j < 2 → (dRow R0 j).le maxLen) ∧ (dAtomSS R0.cells).sz ≤ 100000000) := by rw [hR0]; exact mr_le (HO1.out 0 (by omega))
  have HRW : Hid (1 + (dAtomSS R0.cells).wd < 100000000000) := by have h1 := D.wd_le (dAtomSS R0.cells) (HRB.out.1 1 (by omega)); have h2 := HRB.out.2; show _ < _; omega
  have nq1 : (R1 != R1) = false := by simp
  clear hR0 hR1
  have EQ0 : Hid (∀ (W : World) (b1 : Option Addr) (e1 : Nat) (f1 : Option Addr) (g1 : Nat) (b2 : Option Addr) (e2 : Nat) (f2 : Option Addr) (g2 : Nat), Rd W (fun _ => True) (dColumnS x0.cols) (.slice b1 x0.cols.length e1) → Rd W (fun _ => True) (dIntS x0.uq) (.slice b2 x0.uq.length e2) → Rd W (fun _ => True) (dColumnS x0.cols) (.slice f1 x0.cols.length g1) → Rd W (fun _ => True) (dIntS x0.uq) (.slice f2 x0.uq.length g2) → Calls Tryz.prog 13 #[.agg #[.string ⟨x0.nm.toArray⟩, .slice b1 x0.cols.length e1, .slice b2 x0.uq.length e2, .bool x0.rt], .agg #[.string ⟨x0.nm.toArray⟩, .slice f1 x0.cols.length g1, .slice f2 x0.uq.length g2, .bool x0.rt]] W fun e w' => e = .returned (.bool true) ∧ Below W.heap.size W w') := fun W b1 e1 f1 g1 b2 e2 f2 g2 h1 h2 i1 i2 => eqDTable x0 b1 e1 b2 e2 f1 g1 f2 g2 _ _ W HO0.out h1 h2 i1 i2
  have EQ1 : Hid (∀ (W : World) (b1 : Option Addr) (e1 : Nat) (f1 : Option Addr) (g1 : Nat), Rd W (fun _ => True) (dAtomSS x1.cells) (.slice b1 x1.cells.length e1) → Rd W (fun _ => True) (dAtomSS x1.cells) (.slice f1 x1.cells.length g1) → Calls Tryz.prog 12 #[.agg #[.int .i64 x1.id, .slice b1 x1.cells.length e1], .agg #[.int .i64 x1.id, .slice f1 x1.cells.length g1]] W fun e w' => e = .returned (.bool true) ∧ Below W.heap.size W w') := fun W b1 e1 f1 g1 h1 i1 => eqDRow x1 b1 e1 f1 g1 _ _ W HO1.out h1 i1
  have EQ2 : Hid (∀ (W : World) (b : Option Addr) (e : Nat) (f : Option Addr) (g : Nat), Rd W (fun _ => True) (dMutS x2) (.slice b x2.length e) → Rd W (fun _ => True) (dMutS x2) (.slice f x2.length g) → Calls Tryz.prog 14 #[.slice b x2.length e, .slice f x2.length g] W fun e w' => e = .returned (.bool true) ∧ Below W.heap.size W w') := fun W b e f g h i => eqDMutS x2 b e f g _ _ W HO2.out h i
  have HOR := Lib.hid HRB.out.1
  have EQR : Hid (∀ (W : World) (b1 : Option Addr) (e1 : Nat) (f1 : Option Addr) (g1 : Nat), Rd W (fun _ => True) (dAtomSS R0.cells) (.slice b1 R0.cells.length e1) → Rd W (fun _ => True) (dAtomSS R0.cells) (.slice f1 R0.cells.length g1) → Calls Tryz.prog 12 #[.agg #[.int .i64 R0.id, .slice b1 R0.cells.length e1], .agg #[.int .i64 R0.id, .slice f1 R0.cells.length g1]] W fun e w' => e = .returned (.bool true) ∧ Below W.heap.size W w') := fun W b1 e1 f1 g1 h1 i1 => eqDRow R0 b1 e1 f1 g1 _ _ W HOR.out h1 i1
  have HST : Hid (∀ W, Below ws2.heap.size ws2 W → (Below w.heap.size w W ∧ W.heap[w.heap.size]? = some (.cells #[.string ⟨x0.nm.toArray⟩, .slice a0_1 x0.cols.length c0_1, .slice a0_2 x0.uq.length c0_2, .bool x0.rt] 25) ∧ W.heap[w.heap.size + 1]? = some (.cells #[.int .i64 x1.id, .slice a1_1 x1.cells.length c1_1] 28))) := fun W h => ALAT.out _ _ AS2.out h
  have CE : Hid (∀ W, (Below w.heap.size w W ∧ W.heap[w.heap.size]? = some (.cells #[.string ⟨x0.nm.toArray⟩, .slice a0_1 x0.cols.length c0_1, .slice a0_2 x0.uq.length c0_2, .bool x0.rt] 25) ∧ W.heap[w.heap.size + 1]? = some (.cells #[.int .i64 x1.id, .slice a1_1 x1.cells.length c1_1] 28)) → (W.cell? ⟨w.heap.size, 0, none⟩ = some (.string ⟨x0.nm.toArray⟩) ∧ W.cell? ⟨w.heap.size, 1, none⟩ = some (.slice a0_1 x0.cols.length c0_1) ∧ W.cell? ⟨w.heap.size, 2, none⟩ = some (.slice a0_2 x0.uq.length c0_2) ∧ W.cell? ⟨w.heap.size, 3, none⟩ = some (.bool x0.rt) ∧ W.cell? ⟨w.heap.size + 1, 0, none⟩ = some (.int .i64 x1.id) ∧ W.cell? ⟨w.heap.size + 1, 1, none⟩ = some (.slice a1_1 x1.cells.length c1_1))) := fun W h => ⟨cell_at (o := 0) h.2.1 rfl, cell_at (o := 1) h.2.1 rfl, cell_at (o := 2) h.2.1 rfl, cell_at (o := 3) h.2.1 rfl, cell_at (o := 0) h.2.2 rfl, cell_at (o := 1) h.2.2 rfl⟩
  have HSX : Hid (∀ W, (Below w.heap.size w W ∧ W.heap[w.heap.size]? = some (.cells #[.string ⟨x0.nm.toArray⟩, .slice a0_1 x0.cols.length c0_1, .slice a0_2 x0.uq.length c0_2, .bool x0.rt] 25) ∧ W.heap[w.heap.size + 1]? = some (.cells #[.int .i64 x1.id, .slice a1_1 x1.cells.length c1_1] 28)) → (Below w.heap.size w W ∧ W.heap[w.heap.size]? = some (.cells #[.string ⟨x0.nm.toArray⟩, .slice a0_1 x0.cols.length c0_1, .slice a0_2 x0.uq.length c0_2, .bool x0.rt] 25) ∧ W.heap[w.heap.size + 1]? = some (.cells #[.int .i64 x1.id, .slice a1_1 x1.cells.length c1_1] 28))) := fun W h => ⟨h.1, h.2.1, h.2.2⟩
  clear AS2 x0_0 x0_1 x0_2 x0_3 x1_0 x1_1
  go_cut [8, 9] from 35 to 44 (fun s0 s1 wx => ∃ (ra : Option Addr) (rc b0 : Nat), s0 = .pointer (some ⟨b0, 0, none⟩) ∧ s1 = .int .i64 R1 ∧ Hid ((Below w.heap.size w wx ∧ wx.heap[w.heap.size]? = some (.cells #[.string ⟨x0.nm.toArray⟩, .slice a0_1 x0.cols.length c0_1, .slice a0_2 x0.uq.length c0_2, .bool x0.rt] 25) ∧ wx.heap[w.heap.size + 1]? = some (.cells #[.int .i64 x1.id, .slice a1_1 x1.cells.length c1_1] 28) ∧ wx.heap[b0]? = some (.cells #[.int .i64 R0.id, .slice ra R0.cells.length rc] 35) ∧ Rd wx (· < wx.heap.size) (dAtomSS R0.cells) (.slice ra R0.cells.length rc)) ∧ w.heap.size + 2 ≤ wx.heap.size ∧ b0 < wx.heap.size))
  case first =>
    have BS : Hid (Below ws2.heap.size ws2 ws2) := Below.refl _ _
    refine wp_region_held_drew (S := (fun W => W.cell? ⟨w.heap.size, 0, none⟩ = some (.string ⟨x0.nm.toArray⟩) ∧ W.cell? ⟨w.heap.size, 1, none⟩ = some (.slice a0_1 x0.cols.length c0_1) ∧ W.cell? ⟨w.heap.size, 2, none⟩ = some (.slice a0_2 x0.uq.length c0_2) ∧ W.cell? ⟨w.heap.size, 3, none⟩ = some (.bool x0.rt) ∧ W.cell? ⟨w.heap.size + 1, 0, none⟩ = some (.int .i64 x1.id) ∧ W.cell? ⟨w.heap.size + 1, 1, none⟩ = some (.slice a1_1 x1.cells.length c1_1))) (by kernel_rfl) ?_ (fun hHeld => ?_)
    · (first | exact CE.out _ (HST.out _ BS.out) | exact CE.out _ (HST.out _ BS.out.drew))
    refine wpAnyH_take (i := 0) (v := ?_) rfl (by kernel_rfl) (by kernel_rfl) (by kernel_rfl) (fun _ _ _ h => h) (Or.inl ⟨by kernel_rfl, ?_⟩) (by assumption) ?_
    rotate_left
    · (intro wS hSw; (try dsimp only at hSw); go_simp <;> with_reducible rfl)
    try simp only [Act.put, tkS]
    refine wpAnyH_take (i := 2) (v := ?_) rfl (by kernel_rfl) (by kernel_rfl) (by kernel_rfl) (fun _ _ _ h => h) (Or.inl ⟨by kernel_rfl, ?_⟩) (by assumption) ?_
    rotate_left
    · (intro wS hSw; (try dsimp only at hSw); go_simp <;> with_reducible rfl)
    try simp only [Act.put, tkS]
    refine wpAnyH_take (i := 4) (v := ?_) rfl (by kernel_rfl) (by kernel_rfl) (by kernel_rfl) (fun _ _ _ h => h) (Or.inl ⟨by kernel_rfl, ?_⟩) (by assumption) ?_
    rotate_left
    · (intro wS hSw; (try dsimp only at hSw); go_simp <;> with_reducible rfl)
    try simp only [Act.put, tkS]
    refine wpAnyH_ready (rs := [1, 10]) (by kernel_rfl) (by simp) (AllReadyH.cons rfl (fun K hK => ?_) (AllReadyH.cons rfl (fun K hK => ?_) AllReadyH.nil))
    ·
      go_simp
      go_at_call 8
      refine (TO0.out _ (by first | exact HSX.out _ (HST.out _ BS.out) | exact HSX.out _ (HST.out _ BS.out.drew))).mono ?_
      rintro e wt0 ⟨p0_1, p0_2, rfl, ho, hB, -⟩
      have hb : Below ws2.heap.size ws2 wt0 := by first | exact hB | exact (Below.refl _ _).drew.trans hB
      have BS' : Hid (Below ws2.heap.size ws2 wt0) := BS.out.trans (hb.mono BS.out.size)
      clear BS
      have BS := BS'
      clear BS'
      have RC0_1 : Hid (∀ W, Below wt0.heap.size wt0 W → Rd W (fun _ => True) (dColumnS x0.cols) (.slice (some ⟨p0_1, 0, none⟩) x0.cols.length x0.cols.length)) := fun W h => Rd.later ((Owns.one ho (j := 1) (by omega)).rd'.any) h
      have RC0_2 : Hid (∀ W, Below wt0.heap.size wt0 W → Rd W (fun _ => True) (dIntS x0.uq) (.slice (some ⟨p0_2, 0, none⟩) x0.uq.length x0.uq.length)) := fun W h => Rd.later ((Owns.one ho (j := 2) (by omega)).rd'.any) h
      have BC0 : Hid (Below wt0.heap.size wt0 wt0) := Below.refl _ _
      clear hb hB ho
      refine hK.out _ _ ?_ (fun hHeld => ?_)
      · (first | exact CE.out _ (HST.out _ BS.out) | exact CE.out _ (HST.out _ BS.out.drew))
      clear hK K
      try simp only [Act.put, tkS]
      refine wpAnyH_ready (rs := [3, 10]) (by kernel_rfl) (by simp) (AllReadyH.cons rfl (fun K hK => ?_) (AllReadyH.cons rfl (fun K hK => ?_) AllReadyH.nil))
      ·
        go_simp
        go_at_call 9
        refine (TO1.out _ (by first | exact HSX.out _ (HST.out _ BS.out) | exact HSX.out _ (HST.out _ BS.out.drew))).mono ?_
        rintro e wt1 ⟨p1_1, rfl, ho, hB, -⟩
        have hb : Below wt0.heap.size wt0 wt1 := by first | exact hB | exact (Below.refl _ _).drew.trans hB
        have BS' : Hid (Below ws2.heap.size ws2 wt1) := BS.out.trans (hb.mono BS.out.size)
        clear BS
        have BS := BS'
        clear BS'
        have BC0' : Hid (Below wt0.heap.size wt0 wt1) := BC0.out.trans (hb.mono BC0.out.size)
        clear BC0
        have BC0 := BC0'
        clear BC0'
        have RC1_1 : Hid (∀ W, Below wt1.heap.size wt1 W → Rd W (fun _ => True) (dAtomSS x1.cells) (.slice (some ⟨p1_1, 0, none⟩) x1.cells.length x1.cells.length)) := fun W h => Rd.later ((Owns.one ho (j := 1) (by omega)).rd'.any) h
        have BC1 : Hid (Below wt1.heap.size wt1 wt1) := Below.refl _ _
        clear hb hB ho
        refine hK.out _ _ ?_ (fun hHeld => ?_)
        · (first | exact CE.out _ (HST.out _ BS.out) | exact CE.out _ (HST.out _ BS.out.drew))
        clear hK K
        try simp only [Act.put, tkS]
        refine wpAnyH_ready (rs := [5, 10]) (by kernel_rfl) (by simp) (AllReadyH.cons rfl (fun K hK => ?_) (AllReadyH.cons rfl (fun K hK => ?_) AllReadyH.nil))
        ·
          go_simp
          go_at_call 10
          refine (TO2.out _ (by first | exact HSX.out _ (HST.out _ BS.out) | exact HSX.out _ (HST.out _ BS.out.drew))).mono ?_
          rintro e wt2 ⟨p2_, rfl, ho, hB, -⟩
          have hb : Below wt1.heap.size wt1 wt2 := by first | exact hB | exact (Below.refl _ _).drew.trans hB
          have BS' : Hid (Below ws2.heap.size ws2 wt2) := BS.out.trans (hb.mono BS.out.size)
          clear BS
          have BS := BS'
          clear BS'
          have BC0' : Hid (Below wt0.heap.size wt0 wt2) := BC0.out.trans (hb.mono BC0.out.size)
          clear BC0
          have BC0 := BC0'
          clear BC0'
          have BC1' : Hid (Below wt1.heap.size wt1 wt2) := BC1.out.trans (hb.mono BC1.out.size)
          clear BC1
          have BC1 := BC1'
          clear BC1'
          have RC2_ : Hid (∀ W, Below wt2.heap.size wt2 W → Rd W (fun _ => True) (dMutS x2) (.slice (some ⟨p2_, 0, none⟩) x2.length x2.length)) := fun W h => Rd.later (ho.rd'.any) h
          have BC2 : Hid (Below wt2.heap.size wt2 wt2) := Below.refl _ _
          clear hb hB ho
          refine hK.out _ _ ?_ (fun hHeld => ?_)
          · (first | exact CE.out _ (HST.out _ BS.out) | exact CE.out _ (HST.out _ BS.out.drew))
          clear hK K
          try simp only [Act.put, tkS]
          refine wpAnyH_ready (rs := [6, 10]) (by kernel_rfl) (by simp) (AllReadyH.cons rfl (fun K hK => ?_) (AllReadyH.cons rfl (fun K hK => ?_) AllReadyH.nil))
          ·
            go_simp
            go_at_call 7
            refine (CS.out _ _ _ _ _ _ _ _ _ (by first | exact RC0_1.out _ BC0.out | exact RC0_1.out _ BC0.out.drew) (by first | exact RC0_2.out _ BC0.out | exact RC0_2.out _ BC0.out.drew) (by first | exact RC1_1.out _ BC1.out | exact RC1_1.out _ BC1.out.drew) (by first | exact RC2_.out _ BC2.out | exact RC2_.out _ BC2.out.drew)).mono ?_
            rintro e w2 ⟨ra, rc, rfl, hr2, hB⟩
            have hb : Below wt2.heap.size wt2 w2 := by first | exact hB | exact (Below.refl _ _).drew.trans hB
            have BS' : Hid (Below ws2.heap.size ws2 w2) := BS.out.trans (hb.mono BS.out.size)
            clear BS
            have BS := BS'
            clear BS'
            have BC0' : Hid (Below wt0.heap.size wt0 w2) := BC0.out.trans (hb.mono BC0.out.size)
            clear BC0
            have BC0 := BC0'
            clear BC0'
            have BC1' : Hid (Below wt1.heap.size wt1 w2) := BC1.out.trans (hb.mono BC1.out.size)
            clear BC1
            have BC1 := BC1'
            clear BC1'
            have BC2' : Hid (Below wt2.heap.size wt2 w2) := BC2.out.trans (hb.mono BC2.out.size)
            clear BC2
            have BC2 := BC2'
            clear BC2'
            have HR2 : Hid (Rd w2 (fun b => wt2.heap.size ≤ b ∧ b < w2.heap.size) (dAtomSS R0.cells) (.slice ra R0.cells.length rc)) := by first | exact hr2 | (simpa using hr2)
            clear hb hB hr2
            refine hK.out _ _ ?_ (fun hHeld => ?_)
            · (first | exact CE.out _ (HST.out _ BS.out) | exact CE.out _ (HST.out _ BS.out.drew))
            clear hK K
            try simp only [Act.put, tkS]
            refine wpAnyH_take (i := 7) (v := ?_) rfl (by kernel_rfl) (by kernel_rfl) (by kernel_rfl) (fun _ _ _ h => h) (Or.inl ⟨by kernel_rfl, ?_⟩) (by assumption) ?_
            rotate_left
            · (intro wS hSw; (try dsimp only at hSw); go_simp <;> with_reducible rfl)
            try simp only [Act.put, tkS]
            refine wpAnyH_take (i := 8) (v := ?_) rfl (by kernel_rfl) (by kernel_rfl) (by kernel_rfl) (fun _ _ _ h => h) (Or.inl ⟨by kernel_rfl, ?_⟩) (by assumption) ?_
            rotate_left
            · (intro wS hSw; (try dsimp only at hSw); go_simp <;> with_reducible rfl)
            try simp only [Act.put, tkS]
            refine wpAnyH_take (i := 9) (v := ?_) rfl (by kernel_rfl) (by kernel_rfl) (by kernel_rfl) (fun _ _ _ h => h) (Or.inl ⟨by kernel_rfl, ?_⟩) (by assumption) ?_
            rotate_left
            · (intro wS hSw; (try dsimp only at hSw); go_simp <;> with_reducible rfl)
            try simp only [Act.put, tkS]
            refine wpAnyH_ready (rs := [10]) (by kernel_rfl) (by simp) (AllReadyH.cons rfl (fun K hK => ?_) AllReadyH.nil)
            go_simp
            have BSW : Hid (Below ws2.heap.size ws2 w2) := BS.out
            have BS' : Hid (Below ws2.heap.size ws2 (w2.alloc (.cells #[.int .i64 0, .slice none 0 0] 35))) := BS.out.alloc BS.out.size _
            clear BS
            have BS := BS'
            clear BS'
            have BC0' : Hid (Below wt0.heap.size wt0 (w2.alloc (.cells #[.int .i64 0, .slice none 0 0] 35))) := BC0.out.alloc BC0.out.size _
            clear BC0
            have BC0 := BC0'
            clear BC0'
            have BC1' : Hid (Below wt1.heap.size wt1 (w2.alloc (.cells #[.int .i64 0, .slice none 0 0] 35))) := BC1.out.alloc BC1.out.size _
            clear BC1
            have BC1 := BC1'
            clear BC1'
            have BC2' : Hid (Below wt2.heap.size wt2 (w2.alloc (.cells #[.int .i64 0, .slice none 0 0] 35))) := BC2.out.alloc BC2.out.size _
            clear BC2
            have BC2 := BC2'
            clear BC2'
            have HZ : Hid (∀ W, Below (w2.alloc (.cells #[.int .i64 0, .slice none 0 0] 35)).heap.size (w2.alloc (.cells #[.int .i64 0, .slice none 0 0] 35)) W → W.heap[w2.heap.size]? = some (.cells #[.int .i64 0, .slice none 0 0] 35)) := fun W h => heap_keptD (heap_newD _ _) h
            have BA : Hid (Below (w2.alloc (.cells #[.int .i64 0, .slice none 0 0] 35)).heap.size (w2.alloc (.cells #[.int .i64 0, .slice none 0 0] 35)) (w2.alloc (.cells #[.int .i64 0, .slice none 0 0] 35))) := Below.refl _ _
            refine hK.out _ _ ?_ (fun hHeld => ?_)
            · (first | exact CE.out _ (HST.out _ BS.out) | exact CE.out _ (HST.out _ BS.out.drew))
            clear hK K
            try simp only [Act.put, tkS]
            refine wpAnyH_ready (rs := [11]) (by kernel_rfl) (by simp) (AllReadyH.cons rfl (fun K hK => ?_) AllReadyH.nil)
            go_simp
            have hbw2 : Below ws2.heap.size ws2 w2 := BSW.out
            have BT : Hid (Below ws2.heap.size ws2 (w2.alloc (.cells #[.int .i64 R0.id, .slice ra R0.cells.length rc] 35))) := hbw2.alloc hbw2.size _
            clear BS hbw2
            have BS := BT
            clear BT
            refine hK.out _ _ ?_ (fun hHeld => ?_)
            · (first | exact CE.out _ (HST.out _ BS.out) | exact CE.out _ (HST.out _ BS.out.drew))
            clear hK K
            try simp only [Act.put, tkS]
            refine wpAnyH_take (i := 12) (v := ?_) rfl (by kernel_rfl) (by kernel_rfl) (by kernel_rfl) (fun _ _ _ h => h) (Or.inl ⟨by kernel_rfl, ?_⟩) (by assumption) ?_
            rotate_left
            · (intro wS hSw; (try dsimp only at hSw); go_simp <;> with_reducible rfl)
            try simp only [Act.put, tkS]
            refine wpAnyH_done (by kernel_rfl) ?_ _
            have HF := Lib.hid (HST.out _ BS.out)
            go_wp2_with fail
            go_meet
            refine ⟨ra, rc, _, rfl, rfl, ⟨HF.out.1, HF.out.2.1, HF.out.2.2, heap_newD _ _, (HR2.out.later (below_allocD _ _)).mono (fun b hb => by have := hb.2; simp; omega)⟩, by have h := (Array.getElem?_eq_some_iff.1 HF.out.2.2).1; omega, by simp⟩
          ·
            go_simp
            have LO : Hid (ws2.heap.size ≤ wt2.heap.size) := BS.out.size
            have BS' : Hid (Below ws2.heap.size ws2 (wt2.alloc (.cells #[.int .i64 0, .slice none 0 0] 35))) := BS.out.alloc BS.out.size _
            clear BS
            have BS := BS'
            clear BS'
            have BC0' : Hid (Below wt0.heap.size wt0 (wt2.alloc (.cells #[.int .i64 0, .slice none 0 0] 35))) := BC0.out.alloc BC0.out.size _
            clear BC0
            have BC0 := BC0'
            clear BC0'
            have BC1' : Hid (Below wt1.heap.size wt1 (wt2.alloc (.cells #[.int .i64 0, .slice none 0 0] 35))) := BC1.out.alloc BC1.out.size _
            clear BC1
            have BC1 := BC1'
            clear BC1'
            have BC2' : Hid (Below wt2.heap.size wt2 (wt2.alloc (.cells #[.int .i64 0, .slice none 0 0] 35))) := BC2.out.alloc BC2.out.size _
            clear BC2
            have BC2 := BC2'
            clear BC2'
            have HZ : Hid (∀ W, Below (wt2.alloc (.cells #[.int .i64 0, .slice none 0 0] 35)).heap.size (wt2.alloc (.cells #[.int .i64 0, .slice none 0 0] 35)) W → W.heap[wt2.heap.size]? = some (.cells #[.int .i64 0, .slice none 0 0] 35)) := fun W h => heap_keptD (heap_newD _ _) h
            have BA : Hid (Below (wt2.alloc (.cells #[.int .i64 0, .slice none 0 0] 35)).heap.size (wt2.alloc (.cells #[.int .i64 0, .slice none 0 0] 35)) (wt2.alloc (.cells #[.int .i64 0, .slice none 0 0] 35))) := Below.refl _ _
            refine hK.out _ _ ?_ (fun hHeld => ?_)
            · (first | exact CE.out _ (HST.out _ BS.out) | exact CE.out _ (HST.out _ BS.out.drew))
            clear hK K
            try simp only [Act.put, tkS]
            refine wpAnyH_ready (rs := [6]) (by kernel_rfl) (by simp) (AllReadyH.cons rfl (fun K hK => ?_) AllReadyH.nil)
            go_simp
            have LT0 : Hid (wt2.heap.size < (wt2.alloc (.cells #[.int .i64 0, .slice none 0 0] 35)).heap.size) := (Array.getElem?_eq_some_iff.1 (HZ.out _ BA.out)).1
            go_at_call 7
            refine (CS.out _ _ _ _ _ _ _ _ _ (by first | exact RC0_1.out _ BC0.out | exact RC0_1.out _ BC0.out.drew) (by first | exact RC0_2.out _ BC0.out | exact RC0_2.out _ BC0.out.drew) (by first | exact RC1_1.out _ BC1.out | exact RC1_1.out _ BC1.out.drew) (by first | exact RC2_.out _ BC2.out | exact RC2_.out _ BC2.out.drew)).mono ?_
            rintro e w2 ⟨ra, rc, rfl, hr2, hB⟩
            have hb : Below (wt2.alloc (.cells #[.int .i64 0, .slice none 0 0] 35)).heap.size (wt2.alloc (.cells #[.int .i64 0, .slice none 0 0] 35)) w2 := by first | exact hB | exact (Below.refl _ _).drew.trans hB
            have BS' : Hid (Below ws2.heap.size ws2 w2) := BS.out.trans (hb.mono BS.out.size)
            clear BS
            have BS := BS'
            clear BS'
            have BC0' : Hid (Below wt0.heap.size wt0 w2) := BC0.out.trans (hb.mono BC0.out.size)
            clear BC0
            have BC0 := BC0'
            clear BC0'
            have BC1' : Hid (Below wt1.heap.size wt1 w2) := BC1.out.trans (hb.mono BC1.out.size)
            clear BC1
            have BC1 := BC1'
            clear BC1'
            have BC2' : Hid (Below wt2.heap.size wt2 w2) := BC2.out.trans (hb.mono BC2.out.size)
            clear BC2
            have BC2 := BC2'
            clear BC2'
            have BA' : Hid (Below (wt2.alloc (.cells #[.int .i64 0, .slice none 0 0] 35)).heap.size (wt2.alloc (.cells #[.int .i64 0, .slice none 0 0] 35)) w2) := BA.out.trans (hb.mono BA.out.size)
            clear BA
            have BA := BA'
            clear BA'
            have HR2 : Hid (Rd w2 (fun b => (wt2.alloc (.cells #[.int .i64 0, .slice none 0 0] 35)).heap.size ≤ b ∧ b < w2.heap.size) (dAtomSS R0.cells) (.slice ra R0.cells.length rc)) := by first | exact hr2 | (simpa using hr2)
            clear hb hB hr2
            refine hK.out _ _ ?_ (fun hHeld => ?_)
            · (first | exact CE.out _ (HST.out _ BS.out) | exact CE.out _ (HST.out _ BS.out.drew))
            clear hK K
            try simp only [Act.put, tkS]
            refine wpAnyH_take (i := 7) (v := ?_) rfl (by kernel_rfl) (by kernel_rfl) (by kernel_rfl) (fun _ _ _ h => h) (Or.inl ⟨by kernel_rfl, ?_⟩) (by assumption) ?_
            rotate_left
            · (intro wS hSw; (try dsimp only at hSw); go_simp <;> with_reducible rfl)
            try simp only [Act.put, tkS]
            refine wpAnyH_take (i := 8) (v := ?_) rfl (by kernel_rfl) (by kernel_rfl) (by kernel_rfl) (fun _ _ _ h => h) (Or.inl ⟨by kernel_rfl, ?_⟩) (by assumption) ?_
            rotate_left
            · (intro wS hSw; (try dsimp only at hSw); go_simp <;> with_reducible rfl)
            try simp only [Act.put, tkS]
            refine wpAnyH_take (i := 9) (v := ?_) rfl (by kernel_rfl) (by kernel_rfl) (by kernel_rfl) (fun _ _ _ h => h) (Or.inl ⟨by kernel_rfl, ?_⟩) (by assumption) ?_
            rotate_left
            · (intro wS hSw; (try dsimp only at hSw); go_simp <;> with_reducible rfl)
            try simp only [Act.put, tkS]
            refine wpAnyH_ready (rs := [11]) (by kernel_rfl) (by simp) (AllReadyH.cons rfl (fun K hK => ?_) AllReadyH.nil)
            have zc0 := cell_at (o := 0) (HZ.out _ BA.out) rfl
            have zf0 := frozen_at 0 (HZ.out _ BA.out)
            have zc1 := cell_at (o := 1) (HZ.out _ BA.out) rfl
            have zf1 := frozen_at 1 (HZ.out _ BA.out)
            go_simp
            clear zc0 zf0 zc1 zf1
            have hlo : ws2.heap.size ≤ wt2.heap.size := LO.out
            have BT : Hid (Below ws2.heap.size ws2 ((w2.setCell ⟨wt2.heap.size, 0, none⟩ (.int .i64 R0.id)).setCell ⟨wt2.heap.size, 1, none⟩ (.slice ra R0.cells.length rc))) := ((BS.out.setCell (by first | exact hlo | (show _ ≤ _; exact hlo)) _).setCell (by first | exact hlo | (show _ ≤ _; exact hlo)) _)
            clear BS hlo
            have BS := BT
            clear BT
            refine hK.out _ _ ?_ (fun hHeld => ?_)
            · (first | exact CE.out _ (HST.out _ BS.out) | exact CE.out _ (HST.out _ BS.out.drew))
            clear hK K
            try simp only [Act.put, tkS]
            refine wpAnyH_take (i := 12) (v := ?_) rfl (by kernel_rfl) (by kernel_rfl) (by kernel_rfl) (fun _ _ _ h => h) (Or.inl ⟨by kernel_rfl, ?_⟩) (by assumption) ?_
            rotate_left
            · (intro wS hSw; (try dsimp only at hSw); go_simp <;> with_reducible rfl)
            try simp only [Act.put, tkS]
            refine wpAnyH_done (by kernel_rfl) ?_ _
            have HF := Lib.hid (HST.out _ BS.out)
            go_wp2_with fail
            go_meet
            refine ⟨ra, rc, _, rfl, rfl, ⟨HF.out.1, HF.out.2.1, HF.out.2.2, heap_set 1 _ (heap_set 0 _ (HZ.out _ BA.out)), (HR2.out.frm (F := (· = wt2.heap.size)) ((frm_set _ _ _ _).trans (frm_set _ _ _ _)) (fun b hb e => by have e' : b = wt2.heap.size := e; have h1 := hb.1; have h2 := LT0.out; omega)).mono (fun b hb => by have := hb.2; simpa using this)⟩, by have h := (Array.getElem?_eq_some_iff.1 HF.out.2.2).1; omega, (Array.getElem?_eq_some_iff.1 (heap_set 1 _ (heap_set 0 _ (HZ.out _ BA.out)))).1⟩
        ·
          go_simp
          have LO : Hid (ws2.heap.size ≤ wt1.heap.size) := BS.out.size
          have BS' : Hid (Below ws2.heap.size ws2 (wt1.alloc (.cells #[.int .i64 0, .slice none 0 0] 35))) := BS.out.alloc BS.out.size _
          clear BS
          have BS := BS'
          clear BS'
          have BC0' : Hid (Below wt0.heap.size wt0 (wt1.alloc (.cells #[.int .i64 0, .slice none 0 0] 35))) := BC0.out.alloc BC0.out.size _
          clear BC0
          have BC0 := BC0'
          clear BC0'
          have BC1' : Hid (Below wt1.heap.size wt1 (wt1.alloc (.cells #[.int .i64 0, .slice none 0 0] 35))) := BC1.out.alloc BC1.out.size _
          clear BC1
          have BC1 := BC1'
          clear BC1'
          have HZ : Hid (∀ W, Below (wt1.alloc (.cells #[.int .i64 0, .slice none 0 0] 35)).heap.size (wt1.alloc (.cells #[.int .i64 0, .slice none 0 0] 35)) W → W.heap[wt1.heap.size]? = some (.cells #[.int .i64 0, .slice none 0 0] 35)) := fun W h => heap_keptD (heap_newD _ _) h
          have BA : Hid (Below (wt1.alloc (.cells #[.int .i64 0, .slice none 0 0] 35)).heap.size (wt1.alloc (.cells #[.int .i64 0, .slice none 0 0] 35)) (wt1.alloc (.cells #[.int .i64 0, .slice none 0 0] 35))) := Below.refl _ _
          refine hK.out _ _ ?_ (fun hHeld => ?_)
          · (first | exact CE.out _ (HST.out _ BS.out) | exact CE.out _ (HST.out _ BS.out.drew))
          clear hK K
          try simp only [Act.put, tkS]
          refine wpAnyH_ready (rs := [5]) (by kernel_rfl) (by simp) (AllReadyH.cons rfl (fun K hK => ?_) AllReadyH.nil)
          go_simp
          go_at_call 10
          refine (TO2.out _ (by first | exact HSX.out _ (HST.out _ BS.out) | exact HSX.out _ (HST.out _ BS.out.drew))).mono ?_
          rintro e wt2 ⟨p2_, rfl, ho, hB, -⟩
          have hb : Below (wt1.alloc (.cells #[.int .i64 0, .slice none 0 0] 35)).heap.size (wt1.alloc (.cells #[.int .i64 0, .slice none 0 0] 35)) wt2 := by first | exact hB | exact (Below.refl _ _).drew.trans hB
          have BS' : Hid (Below ws2.heap.size ws2 wt2) := BS.out.trans (hb.mono BS.out.size)
          clear BS
          have BS := BS'
          clear BS'
          have BC0' : Hid (Below wt0.heap.size wt0 wt2) := BC0.out.trans (hb.mono BC0.out.size)
          clear BC0
          have BC0 := BC0'
          clear BC0'
          have BC1' : Hid (Below wt1.heap.size wt1 wt2) := BC1.out.trans (hb.mono BC1.out.size)
          clear BC1
          have BC1 := BC1'
          clear BC1'
          have BA' : Hid (Below (wt1.alloc (.cells #[.int .i64 0, .slice none 0 0] 35)).heap.size (wt1.alloc (.cells #[.int .i64 0, .slice none 0 0] 35)) wt2) := BA.out.trans (hb.mono BA.out.size)
          clear BA
          have BA := BA'
          clear BA'
          have RC2_ : Hid (∀ W, Below wt2.heap.size wt2 W → Rd W (fun _ => True) (dMutS x2) (.slice (some ⟨p2_, 0, none⟩) x2.length x2.length)) := fun W h => Rd.later (ho.rd'.any) h
          have BC2 : Hid (Below wt2.heap.size wt2 wt2) := Below.refl _ _
          clear hb hB ho
          refine hK.out _ _ ?_ (fun hHeld => ?_)
          · (first | exact CE.out _ (HST.out _ BS.out) | exact CE.out _ (HST.out _ BS.out.drew))
          clear hK K
          try simp only [Act.put, tkS]
          refine wpAnyH_ready (rs := [6]) (by kernel_rfl) (by simp) (AllReadyH.cons rfl (fun K hK => ?_) AllReadyH.nil)
          go_simp
          have LT0 : Hid (wt1.heap.size < wt2.heap.size) := (Array.getElem?_eq_some_iff.1 (HZ.out _ BA.out)).1
          go_at_call 7
          refine (CS.out _ _ _ _ _ _ _ _ _ (by first | exact RC0_1.out _ BC0.out | exact RC0_1.out _ BC0.out.drew) (by first | exact RC0_2.out _ BC0.out | exact RC0_2.out _ BC0.out.drew) (by first | exact RC1_1.out _ BC1.out | exact RC1_1.out _ BC1.out.drew) (by first | exact RC2_.out _ BC2.out | exact RC2_.out _ BC2.out.drew)).mono ?_
          rintro e w2 ⟨ra, rc, rfl, hr2, hB⟩
          have hb : Below wt2.heap.size wt2 w2 := by first | exact hB | exact (Below.refl _ _).drew.trans hB
          have BS' : Hid (Below ws2.heap.size ws2 w2) := BS.out.trans (hb.mono BS.out.size)
          clear BS
          have BS := BS'
          clear BS'
          have BC0' : Hid (Below wt0.heap.size wt0 w2) := BC0.out.trans (hb.mono BC0.out.size)
          clear BC0
          have BC0 := BC0'
          clear BC0'
          have BC1' : Hid (Below wt1.heap.size wt1 w2) := BC1.out.trans (hb.mono BC1.out.size)
          clear BC1
          have BC1 := BC1'
          clear BC1'
          have BA' : Hid (Below (wt1.alloc (.cells #[.int .i64 0, .slice none 0 0] 35)).heap.size (wt1.alloc (.cells #[.int .i64 0, .slice none 0 0] 35)) w2) := BA.out.trans (hb.mono BA.out.size)
          clear BA
          have BA := BA'
          clear BA'
          have BC2' : Hid (Below wt2.heap.size wt2 w2) := BC2.out.trans (hb.mono BC2.out.size)
          clear BC2
          have BC2 := BC2'
          clear BC2'
          have HR2 : Hid (Rd w2 (fun b => wt2.heap.size ≤ b ∧ b < w2.heap.size) (dAtomSS R0.cells) (.slice ra R0.cells.length rc)) := by first | exact hr2 | (simpa using hr2)
          clear hb hB hr2
          refine hK.out _ _ ?_ (fun hHeld => ?_)
          · (first | exact CE.out _ (HST.out _ BS.out) | exact CE.out _ (HST.out _ BS.out.drew))
          clear hK K
          try simp only [Act.put, tkS]
          refine wpAnyH_take (i := 7) (v := ?_) rfl (by kernel_rfl) (by kernel_rfl) (by kernel_rfl) (fun _ _ _ h => h) (Or.inl ⟨by kernel_rfl, ?_⟩) (by assumption) ?_
          rotate_left
          · (intro wS hSw; (try dsimp only at hSw); go_simp <;> with_reducible rfl)
          try simp only [Act.put, tkS]
          refine wpAnyH_take (i := 8) (v := ?_) rfl (by kernel_rfl) (by kernel_rfl) (by kernel_rfl) (fun _ _ _ h => h) (Or.inl ⟨by kernel_rfl, ?_⟩) (by assumption) ?_
          rotate_left
          · (intro wS hSw; (try dsimp only at hSw); go_simp <;> with_reducible rfl)
          try simp only [Act.put, tkS]
          refine wpAnyH_take (i := 9) (v := ?_) rfl (by kernel_rfl) (by kernel_rfl) (by kernel_rfl) (fun _ _ _ h => h) (Or.inl ⟨by kernel_rfl, ?_⟩) (by assumption) ?_
          rotate_left
          · (intro wS hSw; (try dsimp only at hSw); go_simp <;> with_reducible rfl)
          try simp only [Act.put, tkS]
          refine wpAnyH_ready (rs := [11]) (by kernel_rfl) (by simp) (AllReadyH.cons rfl (fun K hK => ?_) AllReadyH.nil)
          have zc0 := cell_at (o := 0) (HZ.out _ BA.out) rfl
          have zf0 := frozen_at 0 (HZ.out _ BA.out)
          have zc1 := cell_at (o := 1) (HZ.out _ BA.out) rfl
          have zf1 := frozen_at 1 (HZ.out _ BA.out)
          go_simp
          clear zc0 zf0 zc1 zf1
          have hlo : ws2.heap.size ≤ wt1.heap.size := LO.out
          have BT : Hid (Below ws2.heap.size ws2 ((w2.setCell ⟨wt1.heap.size, 0, none⟩ (.int .i64 R0.id)).setCell ⟨wt1.heap.size, 1, none⟩ (.slice ra R0.cells.length rc))) := ((BS.out.setCell (by first | exact hlo | (show _ ≤ _; exact hlo)) _).setCell (by first | exact hlo | (show _ ≤ _; exact hlo)) _)
          clear BS hlo
          have BS := BT
          clear BT
          refine hK.out _ _ ?_ (fun hHeld => ?_)
          · (first | exact CE.out _ (HST.out _ BS.out) | exact CE.out _ (HST.out _ BS.out.drew))
          clear hK K
          try simp only [Act.put, tkS]
          refine wpAnyH_take (i := 12) (v := ?_) rfl (by kernel_rfl) (by kernel_rfl) (by kernel_rfl) (fun _ _ _ h => h) (Or.inl ⟨by kernel_rfl, ?_⟩) (by assumption) ?_
          rotate_left
          · (intro wS hSw; (try dsimp only at hSw); go_simp <;> with_reducible rfl)
          try simp only [Act.put, tkS]
          refine wpAnyH_done (by kernel_rfl) ?_ _
          have HF := Lib.hid (HST.out _ BS.out)
          go_wp2_with fail
          go_meet
          refine ⟨ra, rc, _, rfl, rfl, ⟨HF.out.1, HF.out.2.1, HF.out.2.2, heap_set 1 _ (heap_set 0 _ (HZ.out _ BA.out)), (HR2.out.frm (F := (· = wt1.heap.size)) ((frm_set _ _ _ _).trans (frm_set _ _ _ _)) (fun b hb e => by have e' : b = wt1.heap.size := e; have h1 := hb.1; have h2 := LT0.out; omega)).mono (fun b hb => by have := hb.2; simpa using this)⟩, by have h := (Array.getElem?_eq_some_iff.1 HF.out.2.2).1; omega, (Array.getElem?_eq_some_iff.1 (heap_set 1 _ (heap_set 0 _ (HZ.out _ BA.out)))).1⟩
      ·
        go_simp
        have LO : Hid (ws2.heap.size ≤ wt0.heap.size) := BS.out.size
        have BS' : Hid (Below ws2.heap.size ws2 (wt0.alloc (.cells #[.int .i64 0, .slice none 0 0] 35))) := BS.out.alloc BS.out.size _
        clear BS
        have BS := BS'
        clear BS'
        have BC0' : Hid (Below wt0.heap.size wt0 (wt0.alloc (.cells #[.int .i64 0, .slice none 0 0] 35))) := BC0.out.alloc BC0.out.size _
        clear BC0
        have BC0 := BC0'
        clear BC0'
        have HZ : Hid (∀ W, Below (wt0.alloc (.cells #[.int .i64 0, .slice none 0 0] 35)).heap.size (wt0.alloc (.cells #[.int .i64 0, .slice none 0 0] 35)) W → W.heap[wt0.heap.size]? = some (.cells #[.int .i64 0, .slice none 0 0] 35)) := fun W h => heap_keptD (heap_newD _ _) h
        have BA : Hid (Below (wt0.alloc (.cells #[.int .i64 0, .slice none 0 0] 35)).heap.size (wt0.alloc (.cells #[.int .i64 0, .slice none 0 0] 35)) (wt0.alloc (.cells #[.int .i64 0, .slice none 0 0] 35))) := Below.refl _ _
        refine hK.out _ _ ?_ (fun hHeld => ?_)
        · (first | exact CE.out _ (HST.out _ BS.out) | exact CE.out _ (HST.out _ BS.out.drew))
        clear hK K
        try simp only [Act.put, tkS]
        refine wpAnyH_ready (rs := [3]) (by kernel_rfl) (by simp) (AllReadyH.cons rfl (fun K hK => ?_) AllReadyH.nil)
        go_simp
        go_at_call 9
        refine (TO1.out _ (by first | exact HSX.out _ (HST.out _ BS.out) | exact HSX.out _ (HST.out _ BS.out.drew))).mono ?_
        rintro e wt1 ⟨p1_1, rfl, ho, hB, -⟩
        have hb : Below (wt0.alloc (.cells #[.int .i64 0, .slice none 0 0] 35)).heap.size (wt0.alloc (.cells #[.int .i64 0, .slice none 0 0] 35)) wt1 := by first | exact hB | exact (Below.refl _ _).drew.trans hB
        have BS' : Hid (Below ws2.heap.size ws2 wt1) := BS.out.trans (hb.mono BS.out.size)
        clear BS
        have BS := BS'
        clear BS'
        have BC0' : Hid (Below wt0.heap.size wt0 wt1) := BC0.out.trans (hb.mono BC0.out.size)
        clear BC0
        have BC0 := BC0'
        clear BC0'
        have BA' : Hid (Below (wt0.alloc (.cells #[.int .i64 0, .slice none 0 0] 35)).heap.size (wt0.alloc (.cells #[.int .i64 0, .slice none 0 0] 35)) wt1) := BA.out.trans (hb.mono BA.out.size)
        clear BA
        have BA := BA'
        clear BA'
        have RC1_1 : Hid (∀ W, Below wt1.heap.size wt1 W → Rd W (fun _ => True) (dAtomSS x1.cells) (.slice (some ⟨p1_1, 0, none⟩) x1.cells.length x1.cells.length)) := fun W h => Rd.later ((Owns.one ho (j := 1) (by omega)).rd'.any) h
        have BC1 : Hid (Below wt1.heap.size wt1 wt1) := Below.refl _ _
        clear hb hB ho
        refine hK.out _ _ ?_ (fun hHeld => ?_)
        · (first | exact CE.out _ (HST.out _ BS.out) | exact CE.out _ (HST.out _ BS.out.drew))
        clear hK K
        try simp only [Act.put, tkS]
        refine wpAnyH_ready (rs := [5]) (by kernel_rfl) (by simp) (AllReadyH.cons rfl (fun K hK => ?_) AllReadyH.nil)
        go_simp
        go_at_call 10
        refine (TO2.out _ (by first | exact HSX.out _ (HST.out _ BS.out) | exact HSX.out _ (HST.out _ BS.out.drew))).mono ?_
        rintro e wt2 ⟨p2_, rfl, ho, hB, -⟩
        have hb : Below wt1.heap.size wt1 wt2 := by first | exact hB | exact (Below.refl _ _).drew.trans hB
        have BS' : Hid (Below ws2.heap.size ws2 wt2) := BS.out.trans (hb.mono BS.out.size)
        clear BS
        have BS := BS'
        clear BS'
        have BC0' : Hid (Below wt0.heap.size wt0 wt2) := BC0.out.trans (hb.mono BC0.out.size)
        clear BC0
        have BC0 := BC0'
        clear BC0'
        have BA' : Hid (Below (wt0.alloc (.cells #[.int .i64 0, .slice none 0 0] 35)).heap.size (wt0.alloc (.cells #[.int .i64 0, .slice none 0 0] 35)) wt2) := BA.out.trans (hb.mono BA.out.size)
        clear BA
        have BA := BA'
        clear BA'
        have BC1' : Hid (Below wt1.heap.size wt1 wt2) := BC1.out.trans (hb.mono BC1.out.size)
        clear BC1
        have BC1 := BC1'
        clear BC1'
        have RC2_ : Hid (∀ W, Below wt2.heap.size wt2 W → Rd W (fun _ => True) (dMutS x2) (.slice (some ⟨p2_, 0, none⟩) x2.length x2.length)) := fun W h => Rd.later (ho.rd'.any) h
        have BC2 : Hid (Below wt2.heap.size wt2 wt2) := Below.refl _ _
        clear hb hB ho
        refine hK.out _ _ ?_ (fun hHeld => ?_)
        · (first | exact CE.out _ (HST.out _ BS.out) | exact CE.out _ (HST.out _ BS.out.drew))
        clear hK K
        try simp only [Act.put, tkS]
        refine wpAnyH_ready (rs := [6]) (by kernel_rfl) (by simp) (AllReadyH.cons rfl (fun K hK => ?_) AllReadyH.nil)
        go_simp
        have LT0 : Hid (wt0.heap.size < wt2.heap.size) := (Array.getElem?_eq_some_iff.1 (HZ.out _ BA.out)).1
        go_at_call 7
        refine (CS.out _ _ _ _ _ _ _ _ _ (by first | exact RC0_1.out _ BC0.out | exact RC0_1.out _ BC0.out.drew) (by first | exact RC0_2.out _ BC0.out | exact RC0_2.out _ BC0.out.drew) (by first | exact RC1_1.out _ BC1.out | exact RC1_1.out _ BC1.out.drew) (by first | exact RC2_.out _ BC2.out | exact RC2_.out _ BC2.out.drew)).mono ?_
        rintro e w2 ⟨ra, rc, rfl, hr2, hB⟩
        have hb : Below wt2.heap.size wt2 w2 := by first | exact hB | exact (Below.refl _ _).drew.trans hB
        have BS' : Hid (Below ws2.heap.size ws2 w2) := BS.out.trans (hb.mono BS.out.size)
        clear BS
        have BS := BS'
        clear BS'
        have BC0' : Hid (Below wt0.heap.size wt0 w2) := BC0.out.trans (hb.mono BC0.out.size)
        clear BC0
        have BC0 := BC0'
        clear BC0'
        have BA' : Hid (Below (wt0.alloc (.cells #[.int .i64 0, .slice none 0 0] 35)).heap.size (wt0.alloc (.cells #[.int .i64 0, .slice none 0 0] 35)) w2) := BA.out.trans (hb.mono BA.out.size)
        clear BA
        have BA := BA'
        clear BA'
        have BC1' : Hid (Below wt1.heap.size wt1 w2) := BC1.out.trans (hb.mono BC1.out.size)
        clear BC1
        have BC1 := BC1'
        clear BC1'
        have BC2' : Hid (Below wt2.heap.size wt2 w2) := BC2.out.trans (hb.mono BC2.out.size)
        clear BC2
        have BC2 := BC2'
        clear BC2'
        have HR2 : Hid (Rd w2 (fun b => wt2.heap.size ≤ b ∧ b < w2.heap.size) (dAtomSS R0.cells) (.slice ra R0.cells.length rc)) := by first | exact hr2 | (simpa using hr2)
        clear hb hB hr2
        refine hK.out _ _ ?_ (fun hHeld => ?_)
        · (first | exact CE.out _ (HST.out _ BS.out) | exact CE.out _ (HST.out _ BS.out.drew))
        clear hK K
        try simp only [Act.put, tkS]
        refine wpAnyH_take (i := 7) (v := ?_) rfl (by kernel_rfl) (by kernel_rfl) (by kernel_rfl) (fun _ _ _ h => h) (Or.inl ⟨by kernel_rfl, ?_⟩) (by assumption) ?_
        rotate_left
        · (intro wS hSw; (try dsimp only at hSw); go_simp <;> with_reducible rfl)
        try simp only [Act.put, tkS]
        refine wpAnyH_take (i := 8) (v := ?_) rfl (by kernel_rfl) (by kernel_rfl) (by kernel_rfl) (fun _ _ _ h => h) (Or.inl ⟨by kernel_rfl, ?_⟩) (by assumption) ?_
        rotate_left
        · (intro wS hSw; (try dsimp only at hSw); go_simp <;> with_reducible rfl)
        try simp only [Act.put, tkS]
        refine wpAnyH_take (i := 9) (v := ?_) rfl (by kernel_rfl) (by kernel_rfl) (by kernel_rfl) (fun _ _ _ h => h) (Or.inl ⟨by kernel_rfl, ?_⟩) (by assumption) ?_
        rotate_left
        · (intro wS hSw; (try dsimp only at hSw); go_simp <;> with_reducible rfl)
        try simp only [Act.put, tkS]
        refine wpAnyH_ready (rs := [11]) (by kernel_rfl) (by simp) (AllReadyH.cons rfl (fun K hK => ?_) AllReadyH.nil)
        have zc0 := cell_at (o := 0) (HZ.out _ BA.out) rfl
        have zf0 := frozen_at 0 (HZ.out _ BA.out)
        have zc1 := cell_at (o := 1) (HZ.out _ BA.out) rfl
        have zf1 := frozen_at 1 (HZ.out _ BA.out)
        go_simp
        clear zc0 zf0 zc1 zf1
        have hlo : ws2.heap.size ≤ wt0.heap.size := LO.out
        have BT : Hid (Below ws2.heap.size ws2 ((w2.setCell ⟨wt0.heap.size, 0, none⟩ (.int .i64 R0.id)).setCell ⟨wt0.heap.size, 1, none⟩ (.slice ra R0.cells.length rc))) := ((BS.out.setCell (by first | exact hlo | (show _ ≤ _; exact hlo)) _).setCell (by first | exact hlo | (show _ ≤ _; exact hlo)) _)
        clear BS hlo
        have BS := BT
        clear BT
        refine hK.out _ _ ?_ (fun hHeld => ?_)
        · (first | exact CE.out _ (HST.out _ BS.out) | exact CE.out _ (HST.out _ BS.out.drew))
        clear hK K
        try simp only [Act.put, tkS]
        refine wpAnyH_take (i := 12) (v := ?_) rfl (by kernel_rfl) (by kernel_rfl) (by kernel_rfl) (fun _ _ _ h => h) (Or.inl ⟨by kernel_rfl, ?_⟩) (by assumption) ?_
        rotate_left
        · (intro wS hSw; (try dsimp only at hSw); go_simp <;> with_reducible rfl)
        try simp only [Act.put, tkS]
        refine wpAnyH_done (by kernel_rfl) ?_ _
        have HF := Lib.hid (HST.out _ BS.out)
        go_wp2_with fail
        go_meet
        refine ⟨ra, rc, _, rfl, rfl, ⟨HF.out.1, HF.out.2.1, HF.out.2.2, heap_set 1 _ (heap_set 0 _ (HZ.out _ BA.out)), (HR2.out.frm (F := (· = wt0.heap.size)) ((frm_set _ _ _ _).trans (frm_set _ _ _ _)) (fun b hb e => by have e' : b = wt0.heap.size := e; have h1 := hb.1; have h2 := LT0.out; omega)).mono (fun b hb => by have := hb.2; simpa using this)⟩, by have h := (Array.getElem?_eq_some_iff.1 HF.out.2.2).1; omega, (Array.getElem?_eq_some_iff.1 (heap_set 1 _ (heap_set 0 _ (HZ.out _ BA.out)))).1⟩
    ·
      go_simp
      have LO : Hid (ws2.heap.size ≤ ws2.heap.size) := BS.out.size
      have BS' : Hid (Below ws2.heap.size ws2 (ws2.alloc (.cells #[.int .i64 0, .slice none 0 0] 35))) := BS.out.alloc BS.out.size _
      clear BS
      have BS := BS'
      clear BS'
      have HZ : Hid (∀ W, Below (ws2.alloc (.cells #[.int .i64 0, .slice none 0 0] 35)).heap.size (ws2.alloc (.cells #[.int .i64 0, .slice none 0 0] 35)) W → W.heap[ws2.heap.size]? = some (.cells #[.int .i64 0, .slice none 0 0] 35)) := fun W h => heap_keptD (heap_newD _ _) h
      have BA : Hid (Below (ws2.alloc (.cells #[.int .i64 0, .slice none 0 0] 35)).heap.size (ws2.alloc (.cells #[.int .i64 0, .slice none 0 0] 35)) (ws2.alloc (.cells #[.int .i64 0, .slice none 0 0] 35))) := Below.refl _ _
      refine hK.out _ _ ?_ (fun hHeld => ?_)
      · (first | exact CE.out _ (HST.out _ BS.out) | exact CE.out _ (HST.out _ BS.out.drew))
      clear hK K
      try simp only [Act.put, tkS]
      refine wpAnyH_ready (rs := [1]) (by kernel_rfl) (by simp) (AllReadyH.cons rfl (fun K hK => ?_) AllReadyH.nil)
      go_simp
      go_at_call 8
      refine (TO0.out _ (by first | exact HSX.out _ (HST.out _ BS.out) | exact HSX.out _ (HST.out _ BS.out.drew))).mono ?_
      rintro e wt0 ⟨p0_1, p0_2, rfl, ho, hB, -⟩
      have hb : Below (ws2.alloc (.cells #[.int .i64 0, .slice none 0 0] 35)).heap.size (ws2.alloc (.cells #[.int .i64 0, .slice none 0 0] 35)) wt0 := by first | exact hB | exact (Below.refl _ _).drew.trans hB
      have BS' : Hid (Below ws2.heap.size ws2 wt0) := BS.out.trans (hb.mono BS.out.size)
      clear BS
      have BS := BS'
      clear BS'
      have BA' : Hid (Below (ws2.alloc (.cells #[.int .i64 0, .slice none 0 0] 35)).heap.size (ws2.alloc (.cells #[.int .i64 0, .slice none 0 0] 35)) wt0) := BA.out.trans (hb.mono BA.out.size)
      clear BA
      have BA := BA'
      clear BA'
      have RC0_1 : Hid (∀ W, Below wt0.heap.size wt0 W → Rd W (fun _ => True) (dColumnS x0.cols) (.slice (some ⟨p0_1, 0, none⟩) x0.cols.length x0.cols.length)) := fun W h => Rd.later ((Owns.one ho (j := 1) (by omega)).rd'.any) h
      have RC0_2 : Hid (∀ W, Below wt0.heap.size wt0 W → Rd W (fun _ => True) (dIntS x0.uq) (.slice (some ⟨p0_2, 0, none⟩) x0.uq.length x0.uq.length)) := fun W h => Rd.later ((Owns.one ho (j := 2) (by omega)).rd'.any) h
      have BC0 : Hid (Below wt0.heap.size wt0 wt0) := Below.refl _ _
      clear hb hB ho
      refine hK.out _ _ ?_ (fun hHeld => ?_)
      · (first | exact CE.out _ (HST.out _ BS.out) | exact CE.out _ (HST.out _ BS.out.drew))
      clear hK K
      try simp only [Act.put, tkS]
      refine wpAnyH_ready (rs := [3]) (by kernel_rfl) (by simp) (AllReadyH.cons rfl (fun K hK => ?_) AllReadyH.nil)
      go_simp
      go_at_call 9
      refine (TO1.out _ (by first | exact HSX.out _ (HST.out _ BS.out) | exact HSX.out _ (HST.out _ BS.out.drew))).mono ?_
      rintro e wt1 ⟨p1_1, rfl, ho, hB, -⟩
      have hb : Below wt0.heap.size wt0 wt1 := by first | exact hB | exact (Below.refl _ _).drew.trans hB
      have BS' : Hid (Below ws2.heap.size ws2 wt1) := BS.out.trans (hb.mono BS.out.size)
      clear BS
      have BS := BS'
      clear BS'
      have BA' : Hid (Below (ws2.alloc (.cells #[.int .i64 0, .slice none 0 0] 35)).heap.size (ws2.alloc (.cells #[.int .i64 0, .slice none 0 0] 35)) wt1) := BA.out.trans (hb.mono BA.out.size)
      clear BA
      have BA := BA'
      clear BA'
      have BC0' : Hid (Below wt0.heap.size wt0 wt1) := BC0.out.trans (hb.mono BC0.out.size)
      clear BC0
      have BC0 := BC0'
      clear BC0'
      have RC1_1 : Hid (∀ W, Below wt1.heap.size wt1 W → Rd W (fun _ => True) (dAtomSS x1.cells) (.slice (some ⟨p1_1, 0, none⟩) x1.cells.length x1.cells.length)) := fun W h => Rd.later ((Owns.one ho (j := 1) (by omega)).rd'.any) h
      have BC1 : Hid (Below wt1.heap.size wt1 wt1) := Below.refl _ _
      clear hb hB ho
      refine hK.out _ _ ?_ (fun hHeld => ?_)
      · (first | exact CE.out _ (HST.out _ BS.out) | exact CE.out _ (HST.out _ BS.out.drew))
      clear hK K
      try simp only [Act.put, tkS]
      refine wpAnyH_ready (rs := [5]) (by kernel_rfl) (by simp) (AllReadyH.cons rfl (fun K hK => ?_) AllReadyH.nil)
      go_simp
      go_at_call 10
      refine (TO2.out _ (by first | exact HSX.out _ (HST.out _ BS.out) | exact HSX.out _ (HST.out _ BS.out.drew))).mono ?_
      rintro e wt2 ⟨p2_, rfl, ho, hB, -⟩
      have hb : Below wt1.heap.size wt1 wt2 := by first | exact hB | exact (Below.refl _ _).drew.trans hB
      have BS' : Hid (Below ws2.heap.size ws2 wt2) := BS.out.trans (hb.mono BS.out.size)
      clear BS
      have BS := BS'
      clear BS'
      have BA' : Hid (Below (ws2.alloc (.cells #[.int .i64 0, .slice none 0 0] 35)).heap.size (ws2.alloc (.cells #[.int .i64 0, .slice none 0 0] 35)) wt2) := BA.out.trans (hb.mono BA.out.size)
      clear BA
      have BA := BA'
      clear BA'
      have BC0' : Hid (Below wt0.heap.size wt0 wt2) := BC0.out.trans (hb.mono BC0.out.size)
      clear BC0
      have BC0 := BC0'
      clear BC0'
      have BC1' : Hid (Below wt1.heap.size wt1 wt2) := BC1.out.trans (hb.mono BC1.out.size)
      clear BC1
      have BC1 := BC1'
      clear BC1'
      have RC2_ : Hid (∀ W, Below wt2.heap.size wt2 W → Rd W (fun _ => True) (dMutS x2) (.slice (some ⟨p2_, 0, none⟩) x2.length x2.length)) := fun W h => Rd.later (ho.rd'.any) h
      have BC2 : Hid (Below wt2.heap.size wt2 wt2) := Below.refl _ _
      clear hb hB ho
      refine hK.out _ _ ?_ (fun hHeld => ?_)
      · (first | exact CE.out _ (HST.out _ BS.out) | exact CE.out _ (HST.out _ BS.out.drew))
      clear hK K
      try simp only [Act.put, tkS]
      refine wpAnyH_ready (rs := [6]) (by kernel_rfl) (by simp) (AllReadyH.cons rfl (fun K hK => ?_) AllReadyH.nil)
      go_simp
      have LT0 : Hid (ws2.heap.size < wt2.heap.size) := (Array.getElem?_eq_some_iff.1 (HZ.out _ BA.out)).1
      go_at_call 7
      refine (CS.out _ _ _ _ _ _ _ _ _ (by first | exact RC0_1.out _ BC0.out | exact RC0_1.out _ BC0.out.drew) (by first | exact RC0_2.out _ BC0.out | exact RC0_2.out _ BC0.out.drew) (by first | exact RC1_1.out _ BC1.out | exact RC1_1.out _ BC1.out.drew) (by first | exact RC2_.out _ BC2.out | exact RC2_.out _ BC2.out.drew)).mono ?_
      rintro e w2 ⟨ra, rc, rfl, hr2, hB⟩
      have hb : Below wt2.heap.size wt2 w2 := by first | exact hB | exact (Below.refl _ _).drew.trans hB
      have BS' : Hid (Below ws2.heap.size ws2 w2) := BS.out.trans (hb.mono BS.out.size)
      clear BS
      have BS := BS'
      clear BS'
      have BA' : Hid (Below (ws2.alloc (.cells #[.int .i64 0, .slice none 0 0] 35)).heap.size (ws2.alloc (.cells #[.int .i64 0, .slice none 0 0] 35)) w2) := BA.out.trans (hb.mono BA.out.size)
      clear BA
      have BA := BA'
      clear BA'
      have BC0' : Hid (Below wt0.heap.size wt0 w2) := BC0.out.trans (hb.mono BC0.out.size)
      clear BC0
      have BC0 := BC0'
      clear BC0'
      have BC1' : Hid (Below wt1.heap.size wt1 w2) := BC1.out.trans (hb.mono BC1.out.size)
      clear BC1
      have BC1 := BC1'
      clear BC1'
      have BC2' : Hid (Below wt2.heap.size wt2 w2) := BC2.out.trans (hb.mono BC2.out.size)
      clear BC2
      have BC2 := BC2'
      clear BC2'
      have HR2 : Hid (Rd w2 (fun b => wt2.heap.size ≤ b ∧ b < w2.heap.size) (dAtomSS R0.cells) (.slice ra R0.cells.length rc)) := by first | exact hr2 | (simpa using hr2)
      clear hb hB hr2
      refine hK.out _ _ ?_ (fun hHeld => ?_)
      · (first | exact CE.out _ (HST.out _ BS.out) | exact CE.out _ (HST.out _ BS.out.drew))
      clear hK K
      try simp only [Act.put, tkS]
      refine wpAnyH_take (i := 7) (v := ?_) rfl (by kernel_rfl) (by kernel_rfl) (by kernel_rfl) (fun _ _ _ h => h) (Or.inl ⟨by kernel_rfl, ?_⟩) (by assumption) ?_
      rotate_left
      · (intro wS hSw; (try dsimp only at hSw); go_simp <;> with_reducible rfl)
      try simp only [Act.put, tkS]
      refine wpAnyH_take (i := 8) (v := ?_) rfl (by kernel_rfl) (by kernel_rfl) (by kernel_rfl) (fun _ _ _ h => h) (Or.inl ⟨by kernel_rfl, ?_⟩) (by assumption) ?_
      rotate_left
      · (intro wS hSw; (try dsimp only at hSw); go_simp <;> with_reducible rfl)
      try simp only [Act.put, tkS]
      refine wpAnyH_take (i := 9) (v := ?_) rfl (by kernel_rfl) (by kernel_rfl) (by kernel_rfl) (fun _ _ _ h => h) (Or.inl ⟨by kernel_rfl, ?_⟩) (by assumption) ?_
      rotate_left
      · (intro wS hSw; (try dsimp only at hSw); go_simp <;> with_reducible rfl)
      try simp only [Act.put, tkS]
      refine wpAnyH_ready (rs := [11]) (by kernel_rfl) (by simp) (AllReadyH.cons rfl (fun K hK => ?_) AllReadyH.nil)
      have zc0 := cell_at (o := 0) (HZ.out _ BA.out) rfl
      have zf0 := frozen_at 0 (HZ.out _ BA.out)
      have zc1 := cell_at (o := 1) (HZ.out _ BA.out) rfl
      have zf1 := frozen_at 1 (HZ.out _ BA.out)
      go_simp
      clear zc0 zf0 zc1 zf1
      have hlo : ws2.heap.size ≤ ws2.heap.size := LO.out
      have BT : Hid (Below ws2.heap.size ws2 ((w2.setCell ⟨ws2.heap.size, 0, none⟩ (.int .i64 R0.id)).setCell ⟨ws2.heap.size, 1, none⟩ (.slice ra R0.cells.length rc))) := ((BS.out.setCell (by first | exact hlo | (show _ ≤ _; exact hlo)) _).setCell (by first | exact hlo | (show _ ≤ _; exact hlo)) _)
      clear BS hlo
      have BS := BT
      clear BT
      refine hK.out _ _ ?_ (fun hHeld => ?_)
      · (first | exact CE.out _ (HST.out _ BS.out) | exact CE.out _ (HST.out _ BS.out.drew))
      clear hK K
      try simp only [Act.put, tkS]
      refine wpAnyH_take (i := 12) (v := ?_) rfl (by kernel_rfl) (by kernel_rfl) (by kernel_rfl) (fun _ _ _ h => h) (Or.inl ⟨by kernel_rfl, ?_⟩) (by assumption) ?_
      rotate_left
      · (intro wS hSw; (try dsimp only at hSw); go_simp <;> with_reducible rfl)
      try simp only [Act.put, tkS]
      refine wpAnyH_done (by kernel_rfl) ?_ _
      have HF := Lib.hid (HST.out _ BS.out)
      go_wp2_with fail
      go_meet
      refine ⟨ra, rc, _, rfl, rfl, ⟨HF.out.1, HF.out.2.1, HF.out.2.2, heap_set 1 _ (heap_set 0 _ (HZ.out _ BA.out)), (HR2.out.frm (F := (· = ws2.heap.size)) ((frm_set _ _ _ _).trans (frm_set _ _ _ _)) (fun b hb e => by have e' : b = ws2.heap.size := e; have h1 := hb.1; have h2 := LT0.out; omega)).mono (fun b hb => by have := hb.2; simpa using this)⟩, by have h := (Array.getElem?_eq_some_iff.1 HF.out.2.2).1; omega, (Array.getElem?_eq_some_iff.1 (heap_set 1 _ (heap_set 0 _ (HZ.out _ BA.out)))).1⟩
  clear HST CE HSX
  obtain ⟨ra, rc, b0, rfl, rfl, HCUT⟩ := hcut
  have M0 : Hid (Below w.heap.size w wc ∧ wc.heap[w.heap.size]? = some (.cells #[.string ⟨x0.nm.toArray⟩, .slice a0_1 x0.cols.length c0_1, .slice a0_2 x0.uq.length c0_2, .bool x0.rt] 25) ∧ wc.heap[w.heap.size + 1]? = some (.cells #[.int .i64 x1.id, .slice a1_1 x1.cells.length c1_1] 28) ∧ wc.heap[b0]? = some (.cells #[.int .i64 R0.id, .slice ra R0.cells.length rc] 35) ∧ Rd wc (· < wc.heap.size) (dAtomSS R0.cells) (.slice ra R0.cells.length rc)) := HCUT.out.1
  have O0 : Hid (w.heap.size + 2 ≤ wc.heap.size ∧ b0 < wc.heap.size) := HCUT.out.2
  clear HCUT
  have S0L : Hid (∀ W W', (Below w.heap.size w W ∧ W.heap[w.heap.size]? = some (.cells #[.string ⟨x0.nm.toArray⟩, .slice a0_1 x0.cols.length c0_1, .slice a0_2 x0.uq.length c0_2, .bool x0.rt] 25) ∧ W.heap[w.heap.size + 1]? = some (.cells #[.int .i64 x1.id, .slice a1_1 x1.cells.length c1_1] 28) ∧ W.heap[b0]? = some (.cells #[.int .i64 R0.id, .slice ra R0.cells.length rc] 35) ∧ Rd W (· < wc.heap.size) (dAtomSS R0.cells) (.slice ra R0.cells.length rc)) → Below W.heap.size W W' → (Below w.heap.size w W' ∧ W'.heap[w.heap.size]? = some (.cells #[.string ⟨x0.nm.toArray⟩, .slice a0_1 x0.cols.length c0_1, .slice a0_2 x0.uq.length c0_2, .bool x0.rt] 25) ∧ W'.heap[w.heap.size + 1]? = some (.cells #[.int .i64 x1.id, .slice a1_1 x1.cells.length c1_1] 28) ∧ W'.heap[b0]? = some (.cells #[.int .i64 R0.id, .slice ra R0.cells.length rc] 35) ∧ Rd W' (· < wc.heap.size) (dAtomSS R0.cells) (.slice ra R0.cells.length rc))) := fun W W' h hB => ⟨h.1.trans (hB.mono h.1.size), heap_keptD h.2.1 hB, heap_keptD h.2.2.1 hB, heap_keptD h.2.2.2.1 hB, h.2.2.2.2.later hB⟩
  have f_arg0_0 := cell_at (o := 0) M0.out.2.1 rfl
  have f_arg0_1 := cell_at (o := 1) M0.out.2.1 rfl
  have f_arg0_2 := cell_at (o := 2) M0.out.2.1 rfl
  have f_arg0_3 := cell_at (o := 3) M0.out.2.1 rfl
  have f_arg1_0 := cell_at (o := 0) M0.out.2.2.1 rfl
  have f_arg1_1 := cell_at (o := 1) M0.out.2.2.1 rfl
  have f_w0_0 := cell_at (o := 0) M0.out.2.2.2.1 rfl
  have f_w0_1 := cell_at (o := 1) M0.out.2.2.2.1 rfl
  go_wp2_with fail
  refine (TO0.out _ ⟨M0.out.1, M0.out.2.1, M0.out.2.2.1⟩).mono ?_
  rintro e wx0 ⟨p0_1, p0_2, rfl, ho, hB, -⟩
  have hm := S0L.out _ _ M0.out hB
  obtain ⟨u0, hu0⟩ : ∃ u, u = wc.heap.size := ⟨_, rfl⟩
  have U0 : Hid (wc.heap.size ≤ u0 ∧ u0 ≤ wx0.heap.size) := by refine ⟨by first | omega | (rw [hu0]), by rw [hu0]; exact hB.size⟩
  rw [← hu0] at ho
  obtain ⟨Y0, hy1, hy2, hy3⟩ := ho
  have YS0 := Lib.hid hy1
  have YD0 := Lib.hid hy2
  have S1L : Hid (∀ W W', (Below w.heap.size w W ∧ W.heap[w.heap.size]? = some (.cells #[.string ⟨x0.nm.toArray⟩, .slice a0_1 x0.cols.length c0_1, .slice a0_2 x0.uq.length c0_2, .bool x0.rt] 25) ∧ W.heap[w.heap.size + 1]? = some (.cells #[.int .i64 x1.id, .slice a1_1 x1.cells.length c1_1] 28) ∧ W.heap[b0]? = some (.cells #[.int .i64 R0.id, .slice ra R0.cells.length rc] 35) ∧ Rd W (· < wc.heap.size) (dAtomSS R0.cells) (.slice ra R0.cells.length rc) ∧ W.heap[wx0.heap.size]? = some (.cells #[.string ⟨x0.nm.toArray⟩, .slice (some ⟨p0_1, 0, none⟩) x0.cols.length x0.cols.length, .slice (some ⟨p0_2, 0, none⟩) x0.uq.length x0.uq.length, .bool x0.rt] 40) ∧ Own W (dColumnS x0.cols) (Y0 1) (.slice (some ⟨p0_1, 0, none⟩) x0.cols.length x0.cols.length) ∧ Own W (dIntS x0.uq) (Y0 2) (.slice (some ⟨p0_2, 0, none⟩) x0.uq.length x0.uq.length)) → Below W.heap.size W W' → (Below w.heap.size w W' ∧ W'.heap[w.heap.size]? = some (.cells #[.string ⟨x0.nm.toArray⟩, .slice a0_1 x0.cols.length c0_1, .slice a0_2 x0.uq.length c0_2, .bool x0.rt] 25) ∧ W'.heap[w.heap.size + 1]? = some (.cells #[.int .i64 x1.id, .slice a1_1 x1.cells.length c1_1] 28) ∧ W'.heap[b0]? = some (.cells #[.int .i64 R0.id, .slice ra R0.cells.length rc] 35) ∧ Rd W' (· < wc.heap.size) (dAtomSS R0.cells) (.slice ra R0.cells.length rc) ∧ W'.heap[wx0.heap.size]? = some (.cells #[.string ⟨x0.nm.toArray⟩, .slice (some ⟨p0_1, 0, none⟩) x0.cols.length x0.cols.length, .slice (some ⟨p0_2, 0, none⟩) x0.uq.length x0.uq.length, .bool x0.rt] 40) ∧ Own W' (dColumnS x0.cols) (Y0 1) (.slice (some ⟨p0_1, 0, none⟩) x0.cols.length x0.cols.length) ∧ Own W' (dIntS x0.uq) (Y0 2) (.slice (some ⟨p0_2, 0, none⟩) x0.uq.length x0.uq.length))) := fun W W' h hB => ⟨h.1.trans (hB.mono h.1.size), heap_keptD h.2.1 hB, heap_keptD h.2.2.1 hB, heap_keptD h.2.2.2.1 hB, h.2.2.2.2.1.later hB, heap_keptD h.2.2.2.2.2.1 hB, h.2.2.2.2.2.2.1.later hB, h.2.2.2.2.2.2.2.later hB⟩
  have M1 : Hid (Below w.heap.size w (wx0.alloc (.cells #[.string ⟨x0.nm.toArray⟩, .slice (some ⟨p0_1, 0, none⟩) x0.cols.length x0.cols.length, .slice (some ⟨p0_2, 0, none⟩) x0.uq.length x0.uq.length, .bool x0.rt] 40)) ∧ (wx0.alloc (.cells #[.string ⟨x0.nm.toArray⟩, .slice (some ⟨p0_1, 0, none⟩) x0.cols.length x0.cols.length, .slice (some ⟨p0_2, 0, none⟩) x0.uq.length x0.uq.length, .bool x0.rt] 40)).heap[w.heap.size]? = some (.cells #[.string ⟨x0.nm.toArray⟩, .slice a0_1 x0.cols.length c0_1, .slice a0_2 x0.uq.length c0_2, .bool x0.rt] 25) ∧ (wx0.alloc (.cells #[.string ⟨x0.nm.toArray⟩, .slice (some ⟨p0_1, 0, none⟩) x0.cols.length x0.cols.length, .slice (some ⟨p0_2, 0, none⟩) x0.uq.length x0.uq.length, .bool x0.rt] 40)).heap[w.heap.size + 1]? = some (.cells #[.int .i64 x1.id, .slice a1_1 x1.cells.length c1_1] 28) ∧ (wx0.alloc (.cells #[.string ⟨x0.nm.toArray⟩, .slice (some ⟨p0_1, 0, none⟩) x0.cols.length x0.cols.length, .slice (some ⟨p0_2, 0, none⟩) x0.uq.length x0.uq.length, .bool x0.rt] 40)).heap[b0]? = some (.cells #[.int .i64 R0.id, .slice ra R0.cells.length rc] 35) ∧ Rd (wx0.alloc (.cells #[.string ⟨x0.nm.toArray⟩, .slice (some ⟨p0_1, 0, none⟩) x0.cols.length x0.cols.length, .slice (some ⟨p0_2, 0, none⟩) x0.uq.length x0.uq.length, .bool x0.rt] 40)) (· < wc.heap.size) (dAtomSS R0.cells) (.slice ra R0.cells.length rc) ∧ (wx0.alloc (.cells #[.string ⟨x0.nm.toArray⟩, .slice (some ⟨p0_1, 0, none⟩) x0.cols.length x0.cols.length, .slice (some ⟨p0_2, 0, none⟩) x0.uq.length x0.uq.length, .bool x0.rt] 40)).heap[wx0.heap.size]? = some (.cells #[.string ⟨x0.nm.toArray⟩, .slice (some ⟨p0_1, 0, none⟩) x0.cols.length x0.cols.length, .slice (some ⟨p0_2, 0, none⟩) x0.uq.length x0.uq.length, .bool x0.rt] 40) ∧ Own (wx0.alloc (.cells #[.string ⟨x0.nm.toArray⟩, .slice (some ⟨p0_1, 0, none⟩) x0.cols.length x0.cols.length, .slice (some ⟨p0_2, 0, none⟩) x0.uq.length x0.uq.length, .bool x0.rt] 40)) (dColumnS x0.cols) (Y0 1) (.slice (some ⟨p0_1, 0, none⟩) x0.cols.length x0.cols.length) ∧ Own (wx0.alloc (.cells #[.string ⟨x0.nm.toArray⟩, .slice (some ⟨p0_1, 0, none⟩) x0.cols.length x0.cols.length, .slice (some ⟨p0_2, 0, none⟩) x0.uq.length x0.uq.length, .bool x0.rt] 40)) (dIntS x0.uq) (Y0 2) (.slice (some ⟨p0_2, 0, none⟩) x0.uq.length x0.uq.length)) := ⟨hm.1.trans ((below_allocD _ _).mono hm.1.size), heap_keptD hm.2.1 (below_allocD _ _), heap_keptD hm.2.2.1 (below_allocD _ _), heap_keptD hm.2.2.2.1 (below_allocD _ _), hm.2.2.2.2.later (below_allocD _ _), heap_newD _ _, (hy3 1 (by omega)).later (below_allocD _ _), (hy3 2 (by omega)).later (below_allocD _ _)⟩
  clear f_arg0_0 f_arg0_1 f_arg0_2 f_arg0_3 f_arg1_0 f_arg1_1 f_w0_0 f_w0_1
  clear hm hB hy1 hy2 hy3 hu0 M0
  have f_arg0_0 := cell_at (o := 0) M1.out.2.1 rfl
  have f_arg0_1 := cell_at (o := 1) M1.out.2.1 rfl
  have f_arg0_2 := cell_at (o := 2) M1.out.2.1 rfl
  have f_arg0_3 := cell_at (o := 3) M1.out.2.1 rfl
  have f_arg1_0 := cell_at (o := 0) M1.out.2.2.1 rfl
  have f_arg1_1 := cell_at (o := 1) M1.out.2.2.1 rfl
  have f_w0_0 := cell_at (o := 0) M1.out.2.2.2.1 rfl
  have f_w0_1 := cell_at (o := 1) M1.out.2.2.2.1 rfl
  have f_x0_0 := cell_at (o := 0) M1.out.2.2.2.2.2.1 rfl
  have f_x0_1 := cell_at (o := 1) M1.out.2.2.2.2.2.1 rfl
  have f_x0_2 := cell_at (o := 2) M1.out.2.2.2.2.2.1 rfl
  have f_x0_3 := cell_at (o := 3) M1.out.2.2.2.2.2.1 rfl
  go_wp2_with fail
  refine (TO1.out _ ⟨M1.out.1, M1.out.2.1, M1.out.2.2.1⟩).mono ?_
  rintro e wx1 ⟨p1_1, rfl, ho, hB, -⟩
  have hm := S1L.out _ _ M1.out hB
  obtain ⟨u1, hu1⟩ : ∃ u, u = (wx0.alloc (.cells #[.string ⟨x0.nm.toArray⟩, .slice (some ⟨p0_1, 0, none⟩) x0.cols.length x0.cols.length, .slice (some ⟨p0_2, 0, none⟩) x0.uq.length x0.uq.length, .bool x0.rt] 40)).heap.size := ⟨_, rfl⟩
  have U1 : Hid (wx0.heap.size + 1 ≤ u1 ∧ u1 ≤ wx1.heap.size) := by refine ⟨by first | omega | (rw [hu1]; simp), by rw [hu1]; exact hB.size⟩
  rw [← hu1] at ho
  have S2L : Hid (∀ W W', (Below w.heap.size w W ∧ W.heap[w.heap.size]? = some (.cells #[.string ⟨x0.nm.toArray⟩, .slice a0_1 x0.cols.length c0_1, .slice a0_2 x0.uq.length c0_2, .bool x0.rt] 25) ∧ W.heap[w.heap.size + 1]? = some (.cells #[.int .i64 x1.id, .slice a1_1 x1.cells.length c1_1] 28) ∧ W.heap[b0]? = some (.cells #[.int .i64 R0.id, .slice ra R0.cells.length rc] 35) ∧ Rd W (· < wc.heap.size) (dAtomSS R0.cells) (.slice ra R0.cells.length rc) ∧ W.heap[wx0.heap.size]? = some (.cells #[.string ⟨x0.nm.toArray⟩, .slice (some ⟨p0_1, 0, none⟩) x0.cols.length x0.cols.length, .slice (some ⟨p0_2, 0, none⟩) x0.uq.length x0.uq.length, .bool x0.rt] 40) ∧ Own W (dColumnS x0.cols) (Y0 1) (.slice (some ⟨p0_1, 0, none⟩) x0.cols.length x0.cols.length) ∧ Own W (dIntS x0.uq) (Y0 2) (.slice (some ⟨p0_2, 0, none⟩) x0.uq.length x0.uq.length) ∧ W.heap[wx1.heap.size]? = some (.cells #[.int .i64 x1.id, .slice (some ⟨p1_1, 0, none⟩) x1.cells.length x1.cells.length] 35) ∧ Own W (dAtomSS x1.cells) (fun c => u1 ≤ c ∧ c < wx1.heap.size) (.slice (some ⟨p1_1, 0, none⟩) x1.cells.length x1.cells.length)) → Below W.heap.size W W' → (Below w.heap.size w W' ∧ W'.heap[w.heap.size]? = some (.cells #[.string ⟨x0.nm.toArray⟩, .slice a0_1 x0.cols.length c0_1, .slice a0_2 x0.uq.length c0_2, .bool x0.rt] 25) ∧ W'.heap[w.heap.size + 1]? = some (.cells #[.int .i64 x1.id, .slice a1_1 x1.cells.length c1_1] 28) ∧ W'.heap[b0]? = some (.cells #[.int .i64 R0.id, .slice ra R0.cells.length rc] 35) ∧ Rd W' (· < wc.heap.size) (dAtomSS R0.cells) (.slice ra R0.cells.length rc) ∧ W'.heap[wx0.heap.size]? = some (.cells #[.string ⟨x0.nm.toArray⟩, .slice (some ⟨p0_1, 0, none⟩) x0.cols.length x0.cols.length, .slice (some ⟨p0_2, 0, none⟩) x0.uq.length x0.uq.length, .bool x0.rt] 40) ∧ Own W' (dColumnS x0.cols) (Y0 1) (.slice (some ⟨p0_1, 0, none⟩) x0.cols.length x0.cols.length) ∧ Own W' (dIntS x0.uq) (Y0 2) (.slice (some ⟨p0_2, 0, none⟩) x0.uq.length x0.uq.length) ∧ W'.heap[wx1.heap.size]? = some (.cells #[.int .i64 x1.id, .slice (some ⟨p1_1, 0, none⟩) x1.cells.length x1.cells.length] 35) ∧ Own W' (dAtomSS x1.cells) (fun c => u1 ≤ c ∧ c < wx1.heap.size) (.slice (some ⟨p1_1, 0, none⟩) x1.cells.length x1.cells.length))) := fun W W' h hB => ⟨h.1.trans (hB.mono h.1.size), heap_keptD h.2.1 hB, heap_keptD h.2.2.1 hB, heap_keptD h.2.2.2.1 hB, h.2.2.2.2.1.later hB, heap_keptD h.2.2.2.2.2.1 hB, h.2.2.2.2.2.2.1.later hB, h.2.2.2.2.2.2.2.1.later hB, heap_keptD h.2.2.2.2.2.2.2.2.1 hB, h.2.2.2.2.2.2.2.2.2.later hB⟩
  have M2 : Hid (Below w.heap.size w (wx1.alloc (.cells #[.int .i64 x1.id, .slice (some ⟨p1_1, 0, none⟩) x1.cells.length x1.cells.length] 35)) ∧ (wx1.alloc (.cells #[.int .i64 x1.id, .slice (some ⟨p1_1, 0, none⟩) x1.cells.length x1.cells.length] 35)).heap[w.heap.size]? = some (.cells #[.string ⟨x0.nm.toArray⟩, .slice a0_1 x0.cols.length c0_1, .slice a0_2 x0.uq.length c0_2, .bool x0.rt] 25) ∧ (wx1.alloc (.cells #[.int .i64 x1.id, .slice (some ⟨p1_1, 0, none⟩) x1.cells.length x1.cells.length] 35)).heap[w.heap.size + 1]? = some (.cells #[.int .i64 x1.id, .slice a1_1 x1.cells.length c1_1] 28) ∧ (wx1.alloc (.cells #[.int .i64 x1.id, .slice (some ⟨p1_1, 0, none⟩) x1.cells.length x1.cells.length] 35)).heap[b0]? = some (.cells #[.int .i64 R0.id, .slice ra R0.cells.length rc] 35) ∧ Rd (wx1.alloc (.cells #[.int .i64 x1.id, .slice (some ⟨p1_1, 0, none⟩) x1.cells.length x1.cells.length] 35)) (· < wc.heap.size) (dAtomSS R0.cells) (.slice ra R0.cells.length rc) ∧ (wx1.alloc (.cells #[.int .i64 x1.id, .slice (some ⟨p1_1, 0, none⟩) x1.cells.length x1.cells.length] 35)).heap[wx0.heap.size]? = some (.cells #[.string ⟨x0.nm.toArray⟩, .slice (some ⟨p0_1, 0, none⟩) x0.cols.length x0.cols.length, .slice (some ⟨p0_2, 0, none⟩) x0.uq.length x0.uq.length, .bool x0.rt] 40) ∧ Own (wx1.alloc (.cells #[.int .i64 x1.id, .slice (some ⟨p1_1, 0, none⟩) x1.cells.length x1.cells.length] 35)) (dColumnS x0.cols) (Y0 1) (.slice (some ⟨p0_1, 0, none⟩) x0.cols.length x0.cols.length) ∧ Own (wx1.alloc (.cells #[.int .i64 x1.id, .slice (some ⟨p1_1, 0, none⟩) x1.cells.length x1.cells.length] 35)) (dIntS x0.uq) (Y0 2) (.slice (some ⟨p0_2, 0, none⟩) x0.uq.length x0.uq.length) ∧ (wx1.alloc (.cells #[.int .i64 x1.id, .slice (some ⟨p1_1, 0, none⟩) x1.cells.length x1.cells.length] 35)).heap[wx1.heap.size]? = some (.cells #[.int .i64 x1.id, .slice (some ⟨p1_1, 0, none⟩) x1.cells.length x1.cells.length] 35) ∧ Own (wx1.alloc (.cells #[.int .i64 x1.id, .slice (some ⟨p1_1, 0, none⟩) x1.cells.length x1.cells.length] 35)) (dAtomSS x1.cells) (fun c => u1 ≤ c ∧ c < wx1.heap.size) (.slice (some ⟨p1_1, 0, none⟩) x1.cells.length x1.cells.length)) := ⟨hm.1.trans ((below_allocD _ _).mono hm.1.size), heap_keptD hm.2.1 (below_allocD _ _), heap_keptD hm.2.2.1 (below_allocD _ _), heap_keptD hm.2.2.2.1 (below_allocD _ _), hm.2.2.2.2.1.later (below_allocD _ _), heap_keptD hm.2.2.2.2.2.1 (below_allocD _ _), hm.2.2.2.2.2.2.1.later (below_allocD _ _), hm.2.2.2.2.2.2.2.later (below_allocD _ _), heap_newD _ _, (Owns.one ho (j := 1) (by omega)).later (below_allocD _ _)⟩
  clear f_arg0_0 f_arg0_1 f_arg0_2 f_arg0_3 f_arg1_0 f_arg1_1 f_w0_0 f_w0_1 f_x0_0 f_x0_1 f_x0_2 f_x0_3
  clear hm hB ho hu1 M1
  have f_arg0_0 := cell_at (o := 0) M2.out.2.1 rfl
  have f_arg0_1 := cell_at (o := 1) M2.out.2.1 rfl
  have f_arg0_2 := cell_at (o := 2) M2.out.2.1 rfl
  have f_arg0_3 := cell_at (o := 3) M2.out.2.1 rfl
  have f_arg1_0 := cell_at (o := 0) M2.out.2.2.1 rfl
  have f_arg1_1 := cell_at (o := 1) M2.out.2.2.1 rfl
  have f_w0_0 := cell_at (o := 0) M2.out.2.2.2.1 rfl
  have f_w0_1 := cell_at (o := 1) M2.out.2.2.2.1 rfl
  have f_x0_0 := cell_at (o := 0) M2.out.2.2.2.2.2.1 rfl
  have f_x0_1 := cell_at (o := 1) M2.out.2.2.2.2.2.1 rfl
  have f_x0_2 := cell_at (o := 2) M2.out.2.2.2.2.2.1 rfl
  have f_x0_3 := cell_at (o := 3) M2.out.2.2.2.2.2.1 rfl
  have f_x1_0 := cell_at (o := 0) M2.out.2.2.2.2.2.2.2.2.1 rfl
  have f_x1_1 := cell_at (o := 1) M2.out.2.2.2.2.2.2.2.2.1 rfl
  go_wp2_with fail
  refine (TO2.out _ ⟨M2.out.1, M2.out.2.1, M2.out.2.2.1⟩).mono ?_
  rintro e wx2 ⟨p2_, rfl, ho, hB, -⟩
  have hm := S2L.out _ _ M2.out hB
  obtain ⟨u2, hu2⟩ : ∃ u, u = (wx1.alloc (.cells #[.int .i64 x1.id, .slice (some ⟨p1_1, 0, none⟩) x1.cells.length x1.cells.length] 35)).heap.size := ⟨_, rfl⟩
  have U2 : Hid (wx1.heap.size + 1 ≤ u2 ∧ u2 ≤ wx2.heap.size) := by refine ⟨by first | omega | (rw [hu2]; simp), by rw [hu2]; exact hB.size⟩
  rw [← hu2] at ho
  have S3L : Hid (∀ W W', (Below w.heap.size w W ∧ W.heap[w.heap.size]? = some (.cells #[.string ⟨x0.nm.toArray⟩, .slice a0_1 x0.cols.length c0_1, .slice a0_2 x0.uq.length c0_2, .bool x0.rt] 25) ∧ W.heap[w.heap.size + 1]? = some (.cells #[.int .i64 x1.id, .slice a1_1 x1.cells.length c1_1] 28) ∧ W.heap[b0]? = some (.cells #[.int .i64 R0.id, .slice ra R0.cells.length rc] 35) ∧ Rd W (· < wc.heap.size) (dAtomSS R0.cells) (.slice ra R0.cells.length rc) ∧ W.heap[wx0.heap.size]? = some (.cells #[.string ⟨x0.nm.toArray⟩, .slice (some ⟨p0_1, 0, none⟩) x0.cols.length x0.cols.length, .slice (some ⟨p0_2, 0, none⟩) x0.uq.length x0.uq.length, .bool x0.rt] 40) ∧ Own W (dColumnS x0.cols) (Y0 1) (.slice (some ⟨p0_1, 0, none⟩) x0.cols.length x0.cols.length) ∧ Own W (dIntS x0.uq) (Y0 2) (.slice (some ⟨p0_2, 0, none⟩) x0.uq.length x0.uq.length) ∧ W.heap[wx1.heap.size]? = some (.cells #[.int .i64 x1.id, .slice (some ⟨p1_1, 0, none⟩) x1.cells.length x1.cells.length] 35) ∧ Own W (dAtomSS x1.cells) (fun c => u1 ≤ c ∧ c < wx1.heap.size) (.slice (some ⟨p1_1, 0, none⟩) x1.cells.length x1.cells.length) ∧ Own W (dMutS x2) (fun c => u2 ≤ c ∧ c < wx2.heap.size) (.slice (some ⟨p2_, 0, none⟩) x2.length x2.length)) → Below W.heap.size W W' → (Below w.heap.size w W' ∧ W'.heap[w.heap.size]? = some (.cells #[.string ⟨x0.nm.toArray⟩, .slice a0_1 x0.cols.length c0_1, .slice a0_2 x0.uq.length c0_2, .bool x0.rt] 25) ∧ W'.heap[w.heap.size + 1]? = some (.cells #[.int .i64 x1.id, .slice a1_1 x1.cells.length c1_1] 28) ∧ W'.heap[b0]? = some (.cells #[.int .i64 R0.id, .slice ra R0.cells.length rc] 35) ∧ Rd W' (· < wc.heap.size) (dAtomSS R0.cells) (.slice ra R0.cells.length rc) ∧ W'.heap[wx0.heap.size]? = some (.cells #[.string ⟨x0.nm.toArray⟩, .slice (some ⟨p0_1, 0, none⟩) x0.cols.length x0.cols.length, .slice (some ⟨p0_2, 0, none⟩) x0.uq.length x0.uq.length, .bool x0.rt] 40) ∧ Own W' (dColumnS x0.cols) (Y0 1) (.slice (some ⟨p0_1, 0, none⟩) x0.cols.length x0.cols.length) ∧ Own W' (dIntS x0.uq) (Y0 2) (.slice (some ⟨p0_2, 0, none⟩) x0.uq.length x0.uq.length) ∧ W'.heap[wx1.heap.size]? = some (.cells #[.int .i64 x1.id, .slice (some ⟨p1_1, 0, none⟩) x1.cells.length x1.cells.length] 35) ∧ Own W' (dAtomSS x1.cells) (fun c => u1 ≤ c ∧ c < wx1.heap.size) (.slice (some ⟨p1_1, 0, none⟩) x1.cells.length x1.cells.length) ∧ Own W' (dMutS x2) (fun c => u2 ≤ c ∧ c < wx2.heap.size) (.slice (some ⟨p2_, 0, none⟩) x2.length x2.length))) := fun W W' h hB => ⟨h.1.trans (hB.mono h.1.size), heap_keptD h.2.1 hB, heap_keptD h.2.2.1 hB, heap_keptD h.2.2.2.1 hB, h.2.2.2.2.1.later hB, heap_keptD h.2.2.2.2.2.1 hB, h.2.2.2.2.2.2.1.later hB, h.2.2.2.2.2.2.2.1.later hB, heap_keptD h.2.2.2.2.2.2.2.2.1 hB, h.2.2.2.2.2.2.2.2.2.1.later hB, h.2.2.2.2.2.2.2.2.2.2.later hB⟩
  have M3 : Hid (Below w.heap.size w wx2 ∧ wx2.heap[w.heap.size]? = some (.cells #[.string ⟨x0.nm.toArray⟩, .slice a0_1 x0.cols.length c0_1, .slice a0_2 x0.uq.length c0_2, .bool x0.rt] 25) ∧ wx2.heap[w.heap.size + 1]? = some (.cells #[.int .i64 x1.id, .slice a1_1 x1.cells.length c1_1] 28) ∧ wx2.heap[b0]? = some (.cells #[.int .i64 R0.id, .slice ra R0.cells.length rc] 35) ∧ Rd wx2 (· < wc.heap.size) (dAtomSS R0.cells) (.slice ra R0.cells.length rc) ∧ wx2.heap[wx0.heap.size]? = some (.cells #[.string ⟨x0.nm.toArray⟩, .slice (some ⟨p0_1, 0, none⟩) x0.cols.length x0.cols.length, .slice (some ⟨p0_2, 0, none⟩) x0.uq.length x0.uq.length, .bool x0.rt] 40) ∧ Own wx2 (dColumnS x0.cols) (Y0 1) (.slice (some ⟨p0_1, 0, none⟩) x0.cols.length x0.cols.length) ∧ Own wx2 (dIntS x0.uq) (Y0 2) (.slice (some ⟨p0_2, 0, none⟩) x0.uq.length x0.uq.length) ∧ wx2.heap[wx1.heap.size]? = some (.cells #[.int .i64 x1.id, .slice (some ⟨p1_1, 0, none⟩) x1.cells.length x1.cells.length] 35) ∧ Own wx2 (dAtomSS x1.cells) (fun c => u1 ≤ c ∧ c < wx1.heap.size) (.slice (some ⟨p1_1, 0, none⟩) x1.cells.length x1.cells.length) ∧ Own wx2 (dMutS x2) (fun c => u2 ≤ c ∧ c < wx2.heap.size) (.slice (some ⟨p2_, 0, none⟩) x2.length x2.length)) := ⟨hm.1.trans ((Below.refl _ _).mono hm.1.size), heap_keptD hm.2.1 (Below.refl _ _), heap_keptD hm.2.2.1 (Below.refl _ _), heap_keptD hm.2.2.2.1 (Below.refl _ _), hm.2.2.2.2.1.later (Below.refl _ _), heap_keptD hm.2.2.2.2.2.1 (Below.refl _ _), hm.2.2.2.2.2.2.1.later (Below.refl _ _), hm.2.2.2.2.2.2.2.1.later (Below.refl _ _), heap_keptD hm.2.2.2.2.2.2.2.2.1 (Below.refl _ _), hm.2.2.2.2.2.2.2.2.2.later (Below.refl _ _), ho.later (Below.refl _ _)⟩
  clear f_arg0_0 f_arg0_1 f_arg0_2 f_arg0_3 f_arg1_0 f_arg1_1 f_w0_0 f_w0_1 f_x0_0 f_x0_1 f_x0_2 f_x0_3 f_x1_0 f_x1_1
  clear hm hB ho hu2 M2
  have f_arg0_0 := cell_at (o := 0) M3.out.2.1 rfl
  have f_arg0_1 := cell_at (o := 1) M3.out.2.1 rfl
  have f_arg0_2 := cell_at (o := 2) M3.out.2.1 rfl
  have f_arg0_3 := cell_at (o := 3) M3.out.2.1 rfl
  have f_arg1_0 := cell_at (o := 0) M3.out.2.2.1 rfl
  have f_arg1_1 := cell_at (o := 1) M3.out.2.2.1 rfl
  have f_w0_0 := cell_at (o := 0) M3.out.2.2.2.1 rfl
  have f_w0_1 := cell_at (o := 1) M3.out.2.2.2.1 rfl
  have f_x0_0 := cell_at (o := 0) M3.out.2.2.2.2.2.1 rfl
  have f_x0_1 := cell_at (o := 1) M3.out.2.2.2.2.2.1 rfl
  have f_x0_2 := cell_at (o := 2) M3.out.2.2.2.2.2.1 rfl
  have f_x0_3 := cell_at (o := 3) M3.out.2.2.2.2.2.1 rfl
  have f_x1_0 := cell_at (o := 0) M3.out.2.2.2.2.2.2.2.2.1 rfl
  have f_x1_1 := cell_at (o := 1) M3.out.2.2.2.2.2.2.2.2.1 rfl
  go_wp2_with fail
  refine (CI.out _ _ _ _ _ _ _ _ _ (Rd.any (Own.rd' (M3.out.2.2.2.2.2.2.1))) (Rd.any (Own.rd' (M3.out.2.2.2.2.2.2.2.1))) (Rd.any (Own.rd' (M3.out.2.2.2.2.2.2.2.2.2.1))) (Rd.any (Own.rd' (M3.out.2.2.2.2.2.2.2.2.2.2)))).mono ?_
  rintro e wg ⟨ga, gc, rfl, ho, hB⟩
  have hm := S3L.out _ _ M3.out hB
  obtain ⟨ug, hug⟩ : ∃ u, u = wx2.heap.size := ⟨_, rfl⟩
  have UG : Hid (wx2.heap.size ≤ ug ∧ ug ≤ wg.heap.size) := by refine ⟨by first | omega | (rw [hug]), by rw [hug]; exact hB.size⟩
  rw [← hug] at ho
  have SGL : Hid (∀ W W', (Below w.heap.size w W ∧ W.heap[w.heap.size]? = some (.cells #[.string ⟨x0.nm.toArray⟩, .slice a0_1 x0.cols.length c0_1, .slice a0_2 x0.uq.length c0_2, .bool x0.rt] 25) ∧ W.heap[w.heap.size + 1]? = some (.cells #[.int .i64 x1.id, .slice a1_1 x1.cells.length c1_1] 28) ∧ W.heap[b0]? = some (.cells #[.int .i64 R0.id, .slice ra R0.cells.length rc] 35) ∧ Rd W (· < wc.heap.size) (dAtomSS R0.cells) (.slice ra R0.cells.length rc) ∧ W.heap[wx0.heap.size]? = some (.cells #[.string ⟨x0.nm.toArray⟩, .slice (some ⟨p0_1, 0, none⟩) x0.cols.length x0.cols.length, .slice (some ⟨p0_2, 0, none⟩) x0.uq.length x0.uq.length, .bool x0.rt] 40) ∧ Own W (dColumnS x0.cols) (Y0 1) (.slice (some ⟨p0_1, 0, none⟩) x0.cols.length x0.cols.length) ∧ Own W (dIntS x0.uq) (Y0 2) (.slice (some ⟨p0_2, 0, none⟩) x0.uq.length x0.uq.length) ∧ W.heap[wx1.heap.size]? = some (.cells #[.int .i64 x1.id, .slice (some ⟨p1_1, 0, none⟩) x1.cells.length x1.cells.length] 35) ∧ Own W (dAtomSS x1.cells) (fun c => u1 ≤ c ∧ c < wx1.heap.size) (.slice (some ⟨p1_1, 0, none⟩) x1.cells.length x1.cells.length) ∧ Own W (dMutS x2) (fun c => u2 ≤ c ∧ c < wx2.heap.size) (.slice (some ⟨p2_, 0, none⟩) x2.length x2.length) ∧ W.heap[wg.heap.size]? = some (.cells #[.int .i64 R0.id, .slice ga R0.cells.length gc] 35) ∧ Own W (dAtomSS R0.cells) (fun c => ug ≤ c ∧ c < wg.heap.size) (.slice ga R0.cells.length gc)) → Below W.heap.size W W' → (Below w.heap.size w W' ∧ W'.heap[w.heap.size]? = some (.cells #[.string ⟨x0.nm.toArray⟩, .slice a0_1 x0.cols.length c0_1, .slice a0_2 x0.uq.length c0_2, .bool x0.rt] 25) ∧ W'.heap[w.heap.size + 1]? = some (.cells #[.int .i64 x1.id, .slice a1_1 x1.cells.length c1_1] 28) ∧ W'.heap[b0]? = some (.cells #[.int .i64 R0.id, .slice ra R0.cells.length rc] 35) ∧ Rd W' (· < wc.heap.size) (dAtomSS R0.cells) (.slice ra R0.cells.length rc) ∧ W'.heap[wx0.heap.size]? = some (.cells #[.string ⟨x0.nm.toArray⟩, .slice (some ⟨p0_1, 0, none⟩) x0.cols.length x0.cols.length, .slice (some ⟨p0_2, 0, none⟩) x0.uq.length x0.uq.length, .bool x0.rt] 40) ∧ Own W' (dColumnS x0.cols) (Y0 1) (.slice (some ⟨p0_1, 0, none⟩) x0.cols.length x0.cols.length) ∧ Own W' (dIntS x0.uq) (Y0 2) (.slice (some ⟨p0_2, 0, none⟩) x0.uq.length x0.uq.length) ∧ W'.heap[wx1.heap.size]? = some (.cells #[.int .i64 x1.id, .slice (some ⟨p1_1, 0, none⟩) x1.cells.length x1.cells.length] 35) ∧ Own W' (dAtomSS x1.cells) (fun c => u1 ≤ c ∧ c < wx1.heap.size) (.slice (some ⟨p1_1, 0, none⟩) x1.cells.length x1.cells.length) ∧ Own W' (dMutS x2) (fun c => u2 ≤ c ∧ c < wx2.heap.size) (.slice (some ⟨p2_, 0, none⟩) x2.length x2.length) ∧ W'.heap[wg.heap.size]? = some (.cells #[.int .i64 R0.id, .slice ga R0.cells.length gc] 35) ∧ Own W' (dAtomSS R0.cells) (fun c => ug ≤ c ∧ c < wg.heap.size) (.slice ga R0.cells.length gc))) := fun W W' h hB => ⟨h.1.trans (hB.mono h.1.size), heap_keptD h.2.1 hB, heap_keptD h.2.2.1 hB, heap_keptD h.2.2.2.1 hB, h.2.2.2.2.1.later hB, heap_keptD h.2.2.2.2.2.1 hB, h.2.2.2.2.2.2.1.later hB, h.2.2.2.2.2.2.2.1.later hB, heap_keptD h.2.2.2.2.2.2.2.2.1 hB, h.2.2.2.2.2.2.2.2.2.1.later hB, h.2.2.2.2.2.2.2.2.2.2.1.later hB, heap_keptD h.2.2.2.2.2.2.2.2.2.2.2.1 hB, h.2.2.2.2.2.2.2.2.2.2.2.2.later hB⟩
  have MG : Hid (Below w.heap.size w (wg.alloc (.cells #[.int .i64 R0.id, .slice ga R0.cells.length gc] 35)) ∧ (wg.alloc (.cells #[.int .i64 R0.id, .slice ga R0.cells.length gc] 35)).heap[w.heap.size]? = some (.cells #[.string ⟨x0.nm.toArray⟩, .slice a0_1 x0.cols.length c0_1, .slice a0_2 x0.uq.length c0_2, .bool x0.rt] 25) ∧ (wg.alloc (.cells #[.int .i64 R0.id, .slice ga R0.cells.length gc] 35)).heap[w.heap.size + 1]? = some (.cells #[.int .i64 x1.id, .slice a1_1 x1.cells.length c1_1] 28) ∧ (wg.alloc (.cells #[.int .i64 R0.id, .slice ga R0.cells.length gc] 35)).heap[b0]? = some (.cells #[.int .i64 R0.id, .slice ra R0.cells.length rc] 35) ∧ Rd (wg.alloc (.cells #[.int .i64 R0.id, .slice ga R0.cells.length gc] 35)) (· < wc.heap.size) (dAtomSS R0.cells) (.slice ra R0.cells.length rc) ∧ (wg.alloc (.cells #[.int .i64 R0.id, .slice ga R0.cells.length gc] 35)).heap[wx0.heap.size]? = some (.cells #[.string ⟨x0.nm.toArray⟩, .slice (some ⟨p0_1, 0, none⟩) x0.cols.length x0.cols.length, .slice (some ⟨p0_2, 0, none⟩) x0.uq.length x0.uq.length, .bool x0.rt] 40) ∧ Own (wg.alloc (.cells #[.int .i64 R0.id, .slice ga R0.cells.length gc] 35)) (dColumnS x0.cols) (Y0 1) (.slice (some ⟨p0_1, 0, none⟩) x0.cols.length x0.cols.length) ∧ Own (wg.alloc (.cells #[.int .i64 R0.id, .slice ga R0.cells.length gc] 35)) (dIntS x0.uq) (Y0 2) (.slice (some ⟨p0_2, 0, none⟩) x0.uq.length x0.uq.length) ∧ (wg.alloc (.cells #[.int .i64 R0.id, .slice ga R0.cells.length gc] 35)).heap[wx1.heap.size]? = some (.cells #[.int .i64 x1.id, .slice (some ⟨p1_1, 0, none⟩) x1.cells.length x1.cells.length] 35) ∧ Own (wg.alloc (.cells #[.int .i64 R0.id, .slice ga R0.cells.length gc] 35)) (dAtomSS x1.cells) (fun c => u1 ≤ c ∧ c < wx1.heap.size) (.slice (some ⟨p1_1, 0, none⟩) x1.cells.length x1.cells.length) ∧ Own (wg.alloc (.cells #[.int .i64 R0.id, .slice ga R0.cells.length gc] 35)) (dMutS x2) (fun c => u2 ≤ c ∧ c < wx2.heap.size) (.slice (some ⟨p2_, 0, none⟩) x2.length x2.length) ∧ (wg.alloc (.cells #[.int .i64 R0.id, .slice ga R0.cells.length gc] 35)).heap[wg.heap.size]? = some (.cells #[.int .i64 R0.id, .slice ga R0.cells.length gc] 35) ∧ Own (wg.alloc (.cells #[.int .i64 R0.id, .slice ga R0.cells.length gc] 35)) (dAtomSS R0.cells) (fun c => ug ≤ c ∧ c < wg.heap.size) (.slice ga R0.cells.length gc)) := ⟨hm.1.trans ((below_allocD _ _).mono hm.1.size), heap_keptD hm.2.1 (below_allocD _ _), heap_keptD hm.2.2.1 (below_allocD _ _), heap_keptD hm.2.2.2.1 (below_allocD _ _), hm.2.2.2.2.1.later (below_allocD _ _), heap_keptD hm.2.2.2.2.2.1 (below_allocD _ _), hm.2.2.2.2.2.2.1.later (below_allocD _ _), hm.2.2.2.2.2.2.2.1.later (below_allocD _ _), heap_keptD hm.2.2.2.2.2.2.2.2.1 (below_allocD _ _), hm.2.2.2.2.2.2.2.2.2.1.later (below_allocD _ _), hm.2.2.2.2.2.2.2.2.2.2.later (below_allocD _ _), heap_newD _ _, ho.later (below_allocD _ _)⟩
  clear f_arg0_0 f_arg0_1 f_arg0_2 f_arg0_3 f_arg1_0 f_arg1_1 f_w0_0 f_w0_1 f_x0_0 f_x0_1 f_x0_2 f_x0_3 f_x1_0 f_x1_1
  clear hm hB ho hug M3
  have ORD := Lib.hid (And.intro (O0.out) (And.intro (U0.out) (And.intro (U1.out) (And.intro (U2.out) (UG.out)))))
  have f_arg0_0 := cell_at (o := 0) MG.out.2.1 rfl
  have f_arg0_1 := cell_at (o := 1) MG.out.2.1 rfl
  have f_arg0_2 := cell_at (o := 2) MG.out.2.1 rfl
  have f_arg0_3 := cell_at (o := 3) MG.out.2.1 rfl
  have f_arg1_0 := cell_at (o := 0) MG.out.2.2.1 rfl
  have f_arg1_1 := cell_at (o := 1) MG.out.2.2.1 rfl
  have f_w0_0 := cell_at (o := 0) MG.out.2.2.2.1 rfl
  have f_w0_1 := cell_at (o := 1) MG.out.2.2.2.1 rfl
  have f_x0_0 := cell_at (o := 0) MG.out.2.2.2.2.2.1 rfl
  have f_x0_1 := cell_at (o := 1) MG.out.2.2.2.2.2.1 rfl
  have f_x0_2 := cell_at (o := 2) MG.out.2.2.2.2.2.1 rfl
  have f_x0_3 := cell_at (o := 3) MG.out.2.2.2.2.2.1 rfl
  have f_x1_0 := cell_at (o := 0) MG.out.2.2.2.2.2.2.2.2.1 rfl
  have f_x1_1 := cell_at (o := 1) MG.out.2.2.2.2.2.2.2.2.1 rfl
  have f_g_0 := cell_at (o := 0) MG.out.2.2.2.2.2.2.2.2.2.2.2.1 rfl
  have f_g_1 := cell_at (o := 1) MG.out.2.2.2.2.2.2.2.2.2.2.2.1 rfl
  go_wp2_with fail
  refine (EQR.out _ _ _ _ _ (Rd.any (Own.rd' (MG.out.2.2.2.2.2.2.2.2.2.2.2.2))) (Rd.any (MG.out.2.2.2.2.1))).mono ?_
  rintro e wc0 ⟨rfl, hB⟩
  have N1 := Lib.hid (SGL.out _ _ MG.out hB)
  clear f_arg0_0 f_arg0_1 f_arg0_2 f_arg0_3 f_arg1_0 f_arg1_1 f_w0_0 f_w0_1 f_x0_0 f_x0_1 f_x0_2 f_x0_3 f_x1_0 f_x1_1 f_g_0 f_g_1
  clear hB MG
  have f_arg0_0 := cell_at (o := 0) N1.out.2.1 rfl
  have f_arg0_1 := cell_at (o := 1) N1.out.2.1 rfl
  have f_arg0_2 := cell_at (o := 2) N1.out.2.1 rfl
  have f_arg0_3 := cell_at (o := 3) N1.out.2.1 rfl
  have f_arg1_0 := cell_at (o := 0) N1.out.2.2.1 rfl
  have f_arg1_1 := cell_at (o := 1) N1.out.2.2.1 rfl
  have f_w0_0 := cell_at (o := 0) N1.out.2.2.2.1 rfl
  have f_w0_1 := cell_at (o := 1) N1.out.2.2.2.1 rfl
  have f_x0_0 := cell_at (o := 0) N1.out.2.2.2.2.2.1 rfl
  have f_x0_1 := cell_at (o := 1) N1.out.2.2.2.2.2.1 rfl
  have f_x0_2 := cell_at (o := 2) N1.out.2.2.2.2.2.1 rfl
  have f_x0_3 := cell_at (o := 3) N1.out.2.2.2.2.2.1 rfl
  have f_x1_0 := cell_at (o := 0) N1.out.2.2.2.2.2.2.2.2.1 rfl
  have f_x1_1 := cell_at (o := 1) N1.out.2.2.2.2.2.2.2.2.1 rfl
  have f_g_0 := cell_at (o := 0) N1.out.2.2.2.2.2.2.2.2.2.2.2.1 rfl
  have f_g_1 := cell_at (o := 1) N1.out.2.2.2.2.2.2.2.2.2.2.2.1 rfl
  go_wp2_with fail
  have CE0 : Hid (∀ W, (Below w.heap.size w W ∧ W.heap[w.heap.size]? = some (.cells #[.string ⟨x0.nm.toArray⟩, .slice a0_1 x0.cols.length c0_1, .slice a0_2 x0.uq.length c0_2, .bool x0.rt] 25) ∧ W.heap[w.heap.size + 1]? = some (.cells #[.int .i64 x1.id, .slice a1_1 x1.cells.length c1_1] 28) ∧ W.heap[b0]? = some (.cells #[.int .i64 R0.id, .slice ra R0.cells.length rc] 35) ∧ Rd W (· < wc.heap.size) (dAtomSS R0.cells) (.slice ra R0.cells.length rc) ∧ W.heap[wx0.heap.size]? = some (.cells #[.string ⟨x0.nm.toArray⟩, .slice (some ⟨p0_1, 0, none⟩) x0.cols.length x0.cols.length, .slice (some ⟨p0_2, 0, none⟩) x0.uq.length x0.uq.length, .bool x0.rt] 40) ∧ Own W (dColumnS x0.cols) (Y0 1) (.slice (some ⟨p0_1, 0, none⟩) x0.cols.length x0.cols.length) ∧ Own W (dIntS x0.uq) (Y0 2) (.slice (some ⟨p0_2, 0, none⟩) x0.uq.length x0.uq.length) ∧ W.heap[wx1.heap.size]? = some (.cells #[.int .i64 x1.id, .slice (some ⟨p1_1, 0, none⟩) x1.cells.length x1.cells.length] 35) ∧ Own W (dAtomSS x1.cells) (fun c => u1 ≤ c ∧ c < wx1.heap.size) (.slice (some ⟨p1_1, 0, none⟩) x1.cells.length x1.cells.length) ∧ Own W (dMutS x2) (fun c => u2 ≤ c ∧ c < wx2.heap.size) (.slice (some ⟨p2_, 0, none⟩) x2.length x2.length) ∧ W.heap[wg.heap.size]? = some (.cells #[.int .i64 R0.id, .slice ga R0.cells.length gc] 35) ∧ Own W (dAtomSS R0.cells) (fun c => ug ≤ c ∧ c < wg.heap.size) (.slice ga R0.cells.length gc)) → (W.cell? ⟨w.heap.size, 0, none⟩ = some (.string ⟨x0.nm.toArray⟩) ∧ W.cell? ⟨w.heap.size, 1, none⟩ = some (.slice a0_1 x0.cols.length c0_1) ∧ W.cell? ⟨w.heap.size, 2, none⟩ = some (.slice a0_2 x0.uq.length c0_2) ∧ W.cell? ⟨w.heap.size, 3, none⟩ = some (.bool x0.rt) ∧ W.cell? ⟨wx0.heap.size, 0, none⟩ = some (.string ⟨x0.nm.toArray⟩) ∧ W.cell? ⟨wx0.heap.size, 1, none⟩ = some (.slice (some ⟨p0_1, 0, none⟩) x0.cols.length x0.cols.length) ∧ W.cell? ⟨wx0.heap.size, 2, none⟩ = some (.slice (some ⟨p0_2, 0, none⟩) x0.uq.length x0.uq.length) ∧ W.cell? ⟨wx0.heap.size, 3, none⟩ = some (.bool x0.rt))) := fun W h => ⟨cell_at (o := 0) h.2.1 rfl, cell_at (o := 1) h.2.1 rfl, cell_at (o := 2) h.2.1 rfl, cell_at (o := 3) h.2.1 rfl, cell_at (o := 0) h.2.2.2.2.2.1 rfl, cell_at (o := 1) h.2.2.2.2.2.1 rfl, cell_at (o := 2) h.2.2.2.2.2.1 rfl, cell_at (o := 3) h.2.2.2.2.2.1 rfl⟩
  have XA0 : Hid (∀ W, (Below w.heap.size w W ∧ W.heap[w.heap.size]? = some (.cells #[.string ⟨x0.nm.toArray⟩, .slice a0_1 x0.cols.length c0_1, .slice a0_2 x0.uq.length c0_2, .bool x0.rt] 25) ∧ W.heap[w.heap.size + 1]? = some (.cells #[.int .i64 x1.id, .slice a1_1 x1.cells.length c1_1] 28) ∧ W.heap[b0]? = some (.cells #[.int .i64 R0.id, .slice ra R0.cells.length rc] 35) ∧ Rd W (· < wc.heap.size) (dAtomSS R0.cells) (.slice ra R0.cells.length rc) ∧ W.heap[wx0.heap.size]? = some (.cells #[.string ⟨x0.nm.toArray⟩, .slice (some ⟨p0_1, 0, none⟩) x0.cols.length x0.cols.length, .slice (some ⟨p0_2, 0, none⟩) x0.uq.length x0.uq.length, .bool x0.rt] 40) ∧ Own W (dColumnS x0.cols) (Y0 1) (.slice (some ⟨p0_1, 0, none⟩) x0.cols.length x0.cols.length) ∧ Own W (dIntS x0.uq) (Y0 2) (.slice (some ⟨p0_2, 0, none⟩) x0.uq.length x0.uq.length) ∧ W.heap[wx1.heap.size]? = some (.cells #[.int .i64 x1.id, .slice (some ⟨p1_1, 0, none⟩) x1.cells.length x1.cells.length] 35) ∧ Own W (dAtomSS x1.cells) (fun c => u1 ≤ c ∧ c < wx1.heap.size) (.slice (some ⟨p1_1, 0, none⟩) x1.cells.length x1.cells.length) ∧ Own W (dMutS x2) (fun c => u2 ≤ c ∧ c < wx2.heap.size) (.slice (some ⟨p2_, 0, none⟩) x2.length x2.length) ∧ W.heap[wg.heap.size]? = some (.cells #[.int .i64 R0.id, .slice ga R0.cells.length gc] 35) ∧ Own W (dAtomSS R0.cells) (fun c => ug ≤ c ∧ c < wg.heap.size) (.slice ga R0.cells.length gc)) → (Below w.heap.size w W ∧ W.heap[w.heap.size]? = some (.cells #[.string ⟨x0.nm.toArray⟩, .slice a0_1 x0.cols.length c0_1, .slice a0_2 x0.uq.length c0_2, .bool x0.rt] 25) ∧ W.heap[w.heap.size + 1]? = some (.cells #[.int .i64 x1.id, .slice a1_1 x1.cells.length c1_1] 28))) := fun W h => ⟨h.1, h.2.1, h.2.2.1⟩
  have hx := N1.out
  clear N1
  refine wp_region_held_drew (S := (fun W => W.cell? ⟨w.heap.size, 0, none⟩ = some (.string ⟨x0.nm.toArray⟩) ∧ W.cell? ⟨w.heap.size, 1, none⟩ = some (.slice a0_1 x0.cols.length c0_1) ∧ W.cell? ⟨w.heap.size, 2, none⟩ = some (.slice a0_2 x0.uq.length c0_2) ∧ W.cell? ⟨w.heap.size, 3, none⟩ = some (.bool x0.rt) ∧ W.cell? ⟨wx0.heap.size, 0, none⟩ = some (.string ⟨x0.nm.toArray⟩) ∧ W.cell? ⟨wx0.heap.size, 1, none⟩ = some (.slice (some ⟨p0_1, 0, none⟩) x0.cols.length x0.cols.length) ∧ W.cell? ⟨wx0.heap.size, 2, none⟩ = some (.slice (some ⟨p0_2, 0, none⟩) x0.uq.length x0.uq.length) ∧ W.cell? ⟨wx0.heap.size, 3, none⟩ = some (.bool x0.rt))) (by kernel_rfl) ?_ (fun hHeld => ?_)
  · (first | exact CE0.out _ hx | exact CE0.out _ (SGL.out _ _ hx (Below.refl _ _).drew))
  refine wpAnyH_take (i := 0) (v := ?_) rfl (by kernel_rfl) (by kernel_rfl) (by kernel_rfl) (fun _ _ _ h => h) (Or.inl ⟨by kernel_rfl, ?_⟩) (by assumption) ?_
  rotate_left
  · (intro wS hSw; (try dsimp only at hSw); go_simp <;> with_reducible rfl)
  try simp only [Act.put, tkS]
  refine wpAnyH_take (i := 1) (v := ?_) rfl (by kernel_rfl) (by kernel_rfl) (by kernel_rfl) (fun _ _ _ h => h) (Or.inl ⟨by kernel_rfl, ?_⟩) (by assumption) ?_
  rotate_left
  · (intro wS hSw; (try dsimp only at hSw); go_simp <;> with_reducible rfl)
  try simp only [Act.put, tkS]
  refine wpAnyH_ready (rs := [2]) (by kernel_rfl) (by simp) (AllReadyH.cons rfl (fun K hK => ?_) AllReadyH.nil)
  go_simp
  (go_at_call 8; refine (TO0.out _ (by first | exact XA0.out _ hx | exact XA0.out _ (SGL.out _ _ hx (Below.refl _ _).drew))).mono ?_; rintro e we0 ⟨s0_1, s0_2, rfl, ho, hB, _⟩; have h2 : Below w.heap.size w we0 ∧ we0.heap[w.heap.size]? = some (.cells #[.string ⟨x0.nm.toArray⟩, .slice a0_1 x0.cols.length c0_1, .slice a0_2 x0.uq.length c0_2, .bool x0.rt] 25) ∧ we0.heap[w.heap.size + 1]? = some (.cells #[.int .i64 x1.id, .slice a1_1 x1.cells.length c1_1] 28) ∧ we0.heap[b0]? = some (.cells #[.int .i64 R0.id, .slice ra R0.cells.length rc] 35) ∧ Rd we0 (· < wc.heap.size) (dAtomSS R0.cells) (.slice ra R0.cells.length rc) ∧ we0.heap[wx0.heap.size]? = some (.cells #[.string ⟨x0.nm.toArray⟩, .slice (some ⟨p0_1, 0, none⟩) x0.cols.length x0.cols.length, .slice (some ⟨p0_2, 0, none⟩) x0.uq.length x0.uq.length, .bool x0.rt] 40) ∧ Own we0 (dColumnS x0.cols) (Y0 1) (.slice (some ⟨p0_1, 0, none⟩) x0.cols.length x0.cols.length) ∧ Own we0 (dIntS x0.uq) (Y0 2) (.slice (some ⟨p0_2, 0, none⟩) x0.uq.length x0.uq.length) ∧ we0.heap[wx1.heap.size]? = some (.cells #[.int .i64 x1.id, .slice (some ⟨p1_1, 0, none⟩) x1.cells.length x1.cells.length] 35) ∧ Own we0 (dAtomSS x1.cells) (fun c => u1 ≤ c ∧ c < wx1.heap.size) (.slice (some ⟨p1_1, 0, none⟩) x1.cells.length x1.cells.length) ∧ Own we0 (dMutS x2) (fun c => u2 ≤ c ∧ c < wx2.heap.size) (.slice (some ⟨p2_, 0, none⟩) x2.length x2.length) ∧ we0.heap[wg.heap.size]? = some (.cells #[.int .i64 R0.id, .slice ga R0.cells.length gc] 35) ∧ Own we0 (dAtomSS R0.cells) (fun c => ug ≤ c ∧ c < wg.heap.size) (.slice ga R0.cells.length gc) := (by first | exact SGL.out _ _ hx hB | exact SGL.out _ _ (SGL.out _ _ hx (Below.refl _ _).drew) hB); clear hx; have hx := h2; clear h2; have RE0_1 : Hid (Rd _ (fun _ => True) (dColumnS x0.cols) (.slice (some ⟨s0_1, 0, none⟩) x0.cols.length x0.cols.length)) := (Owns.one ho (j := 1) (by omega)).rd'.any; have RE0_2 : Hid (Rd _ (fun _ => True) (dIntS x0.uq) (.slice (some ⟨s0_2, 0, none⟩) x0.uq.length x0.uq.length)) := (Owns.one ho (j := 2) (by omega)).rd'.any; clear hB ho)
  refine hK.out _ _ ?_ (fun hHeld => ?_)
  · (first | exact CE0.out _ hx | exact CE0.out _ (SGL.out _ _ hx (Below.refl _ _).drew))
  clear hK K
  try simp only [Act.put, tkS]
  refine wpAnyH_ready (rs := [3]) (by kernel_rfl) (by simp) (AllReadyH.cons rfl (fun K hK => ?_) AllReadyH.nil)
  go_simp
  (go_at_call 13; refine (EQ0.out _ _ _ _ _ _ _ _ _ (by first | exact Rd.any (Own.rd' (hx.2.2.2.2.2.2.1)) | exact Rd.later (Rd.any (Own.rd' (hx.2.2.2.2.2.2.1))) (Below.refl _ _).drew) (by first | exact Rd.any (Own.rd' (hx.2.2.2.2.2.2.2.1)) | exact Rd.later (Rd.any (Own.rd' (hx.2.2.2.2.2.2.2.1))) (Below.refl _ _).drew) (by first | exact RE0_1.out | exact Rd.later RE0_1.out (Below.refl _ _).drew) (by first | exact RE0_2.out | exact Rd.later RE0_2.out (Below.refl _ _).drew)).mono ?_; rintro e wf0 ⟨rfl, hB⟩; have h2 : Below w.heap.size w wf0 ∧ wf0.heap[w.heap.size]? = some (.cells #[.string ⟨x0.nm.toArray⟩, .slice a0_1 x0.cols.length c0_1, .slice a0_2 x0.uq.length c0_2, .bool x0.rt] 25) ∧ wf0.heap[w.heap.size + 1]? = some (.cells #[.int .i64 x1.id, .slice a1_1 x1.cells.length c1_1] 28) ∧ wf0.heap[b0]? = some (.cells #[.int .i64 R0.id, .slice ra R0.cells.length rc] 35) ∧ Rd wf0 (· < wc.heap.size) (dAtomSS R0.cells) (.slice ra R0.cells.length rc) ∧ wf0.heap[wx0.heap.size]? = some (.cells #[.string ⟨x0.nm.toArray⟩, .slice (some ⟨p0_1, 0, none⟩) x0.cols.length x0.cols.length, .slice (some ⟨p0_2, 0, none⟩) x0.uq.length x0.uq.length, .bool x0.rt] 40) ∧ Own wf0 (dColumnS x0.cols) (Y0 1) (.slice (some ⟨p0_1, 0, none⟩) x0.cols.length x0.cols.length) ∧ Own wf0 (dIntS x0.uq) (Y0 2) (.slice (some ⟨p0_2, 0, none⟩) x0.uq.length x0.uq.length) ∧ wf0.heap[wx1.heap.size]? = some (.cells #[.int .i64 x1.id, .slice (some ⟨p1_1, 0, none⟩) x1.cells.length x1.cells.length] 35) ∧ Own wf0 (dAtomSS x1.cells) (fun c => u1 ≤ c ∧ c < wx1.heap.size) (.slice (some ⟨p1_1, 0, none⟩) x1.cells.length x1.cells.length) ∧ Own wf0 (dMutS x2) (fun c => u2 ≤ c ∧ c < wx2.heap.size) (.slice (some ⟨p2_, 0, none⟩) x2.length x2.length) ∧ wf0.heap[wg.heap.size]? = some (.cells #[.int .i64 R0.id, .slice ga R0.cells.length gc] 35) ∧ Own wf0 (dAtomSS R0.cells) (fun c => ug ≤ c ∧ c < wg.heap.size) (.slice ga R0.cells.length gc) := (by first | exact SGL.out _ _ hx hB | exact SGL.out _ _ (SGL.out _ _ hx (Below.refl _ _).drew) hB); clear hx hB; have hx := h2; clear h2)
  refine hK.out _ _ ?_ (fun hHeld => ?_)
  · (first | exact CE0.out _ hx | exact CE0.out _ (SGL.out _ _ hx (Below.refl _ _).drew))
  clear hK K
  try simp only [Act.put, tkS]
  refine wpAnyH_take (i := 4) (v := ?_) rfl (by kernel_rfl) (by kernel_rfl) (by kernel_rfl) (fun _ _ _ h => h) (Or.inl ⟨by kernel_rfl, ?_⟩) (by assumption) ?_
  rotate_left
  · (intro wS hSw; (try dsimp only at hSw); go_simp <;> with_reducible rfl)
  try simp only [Act.put, tkS]
  refine wpAnyH_done (by kernel_rfl) ?_ _
  have N2 := Lib.hid hx
  clear f_arg0_0 f_arg0_1 f_arg0_2 f_arg0_3 f_arg1_0 f_arg1_1 f_w0_0 f_w0_1 f_x0_0 f_x0_1 f_x0_2 f_x0_3 f_x1_0 f_x1_1 f_g_0 f_g_1
  clear hx RE0_1 RE0_2
  have f_arg0_0 := cell_at (o := 0) N2.out.2.1 rfl
  have f_arg0_1 := cell_at (o := 1) N2.out.2.1 rfl
  have f_arg0_2 := cell_at (o := 2) N2.out.2.1 rfl
  have f_arg0_3 := cell_at (o := 3) N2.out.2.1 rfl
  have f_arg1_0 := cell_at (o := 0) N2.out.2.2.1 rfl
  have f_arg1_1 := cell_at (o := 1) N2.out.2.2.1 rfl
  have f_w0_0 := cell_at (o := 0) N2.out.2.2.2.1 rfl
  have f_w0_1 := cell_at (o := 1) N2.out.2.2.2.1 rfl
  have f_x0_0 := cell_at (o := 0) N2.out.2.2.2.2.2.1 rfl
  have f_x0_1 := cell_at (o := 1) N2.out.2.2.2.2.2.1 rfl
  have f_x0_2 := cell_at (o := 2) N2.out.2.2.2.2.2.1 rfl
  have f_x0_3 := cell_at (o := 3) N2.out.2.2.2.2.2.1 rfl
  have f_x1_0 := cell_at (o := 0) N2.out.2.2.2.2.2.2.2.2.1 rfl
  have f_x1_1 := cell_at (o := 1) N2.out.2.2.2.2.2.2.2.2.1 rfl
  have f_g_0 := cell_at (o := 0) N2.out.2.2.2.2.2.2.2.2.2.2.2.1 rfl
  have f_g_1 := cell_at (o := 1) N2.out.2.2.2.2.2.2.2.2.2.2.2.1 rfl
  go_wp2_with fail
  have CE1 : Hid (∀ W, (Below w.heap.size w W ∧ W.heap[w.heap.size]? = some (.cells #[.string ⟨x0.nm.toArray⟩, .slice a0_1 x0.cols.length c0_1, .slice a0_2 x0.uq.length c0_2, .bool x0.rt] 25) ∧ W.heap[w.heap.size + 1]? = some (.cells #[.int .i64 x1.id, .slice a1_1 x1.cells.length c1_1] 28) ∧ W.heap[b0]? = some (.cells #[.int .i64 R0.id, .slice ra R0.cells.length rc] 35) ∧ Rd W (· < wc.heap.size) (dAtomSS R0.cells) (.slice ra R0.cells.length rc) ∧ W.heap[wx0.heap.size]? = some (.cells #[.string ⟨x0.nm.toArray⟩, .slice (some ⟨p0_1, 0, none⟩) x0.cols.length x0.cols.length, .slice (some ⟨p0_2, 0, none⟩) x0.uq.length x0.uq.length, .bool x0.rt] 40) ∧ Own W (dColumnS x0.cols) (Y0 1) (.slice (some ⟨p0_1, 0, none⟩) x0.cols.length x0.cols.length) ∧ Own W (dIntS x0.uq) (Y0 2) (.slice (some ⟨p0_2, 0, none⟩) x0.uq.length x0.uq.length) ∧ W.heap[wx1.heap.size]? = some (.cells #[.int .i64 x1.id, .slice (some ⟨p1_1, 0, none⟩) x1.cells.length x1.cells.length] 35) ∧ Own W (dAtomSS x1.cells) (fun c => u1 ≤ c ∧ c < wx1.heap.size) (.slice (some ⟨p1_1, 0, none⟩) x1.cells.length x1.cells.length) ∧ Own W (dMutS x2) (fun c => u2 ≤ c ∧ c < wx2.heap.size) (.slice (some ⟨p2_, 0, none⟩) x2.length x2.length) ∧ W.heap[wg.heap.size]? = some (.cells #[.int .i64 R0.id, .slice ga R0.cells.length gc] 35) ∧ Own W (dAtomSS R0.cells) (fun c => ug ≤ c ∧ c < wg.heap.size) (.slice ga R0.cells.length gc)) → (W.cell? ⟨w.heap.size + 1, 0, none⟩ = some (.int .i64 x1.id) ∧ W.cell? ⟨w.heap.size + 1, 1, none⟩ = some (.slice a1_1 x1.cells.length c1_1) ∧ W.cell? ⟨wx1.heap.size, 0, none⟩ = some (.int .i64 x1.id) ∧ W.cell? ⟨wx1.heap.size, 1, none⟩ = some (.slice (some ⟨p1_1, 0, none⟩) x1.cells.length x1.cells.length))) := fun W h => ⟨cell_at (o := 0) h.2.2.1 rfl, cell_at (o := 1) h.2.2.1 rfl, cell_at (o := 0) h.2.2.2.2.2.2.2.2.1 rfl, cell_at (o := 1) h.2.2.2.2.2.2.2.2.1 rfl⟩
  have XA1 : Hid (∀ W, (Below w.heap.size w W ∧ W.heap[w.heap.size]? = some (.cells #[.string ⟨x0.nm.toArray⟩, .slice a0_1 x0.cols.length c0_1, .slice a0_2 x0.uq.length c0_2, .bool x0.rt] 25) ∧ W.heap[w.heap.size + 1]? = some (.cells #[.int .i64 x1.id, .slice a1_1 x1.cells.length c1_1] 28) ∧ W.heap[b0]? = some (.cells #[.int .i64 R0.id, .slice ra R0.cells.length rc] 35) ∧ Rd W (· < wc.heap.size) (dAtomSS R0.cells) (.slice ra R0.cells.length rc) ∧ W.heap[wx0.heap.size]? = some (.cells #[.string ⟨x0.nm.toArray⟩, .slice (some ⟨p0_1, 0, none⟩) x0.cols.length x0.cols.length, .slice (some ⟨p0_2, 0, none⟩) x0.uq.length x0.uq.length, .bool x0.rt] 40) ∧ Own W (dColumnS x0.cols) (Y0 1) (.slice (some ⟨p0_1, 0, none⟩) x0.cols.length x0.cols.length) ∧ Own W (dIntS x0.uq) (Y0 2) (.slice (some ⟨p0_2, 0, none⟩) x0.uq.length x0.uq.length) ∧ W.heap[wx1.heap.size]? = some (.cells #[.int .i64 x1.id, .slice (some ⟨p1_1, 0, none⟩) x1.cells.length x1.cells.length] 35) ∧ Own W (dAtomSS x1.cells) (fun c => u1 ≤ c ∧ c < wx1.heap.size) (.slice (some ⟨p1_1, 0, none⟩) x1.cells.length x1.cells.length) ∧ Own W (dMutS x2) (fun c => u2 ≤ c ∧ c < wx2.heap.size) (.slice (some ⟨p2_, 0, none⟩) x2.length x2.length) ∧ W.heap[wg.heap.size]? = some (.cells #[.int .i64 R0.id, .slice ga R0.cells.length gc] 35) ∧ Own W (dAtomSS R0.cells) (fun c => ug ≤ c ∧ c < wg.heap.size) (.slice ga R0.cells.length gc)) → (Below w.heap.size w W ∧ W.heap[w.heap.size]? = some (.cells #[.string ⟨x0.nm.toArray⟩, .slice a0_1 x0.cols.length c0_1, .slice a0_2 x0.uq.length c0_2, .bool x0.rt] 25) ∧ W.heap[w.heap.size + 1]? = some (.cells #[.int .i64 x1.id, .slice a1_1 x1.cells.length c1_1] 28))) := fun W h => ⟨h.1, h.2.1, h.2.2.1⟩
  have hx := N2.out
  clear N2
  refine wp_region_held_drew (S := (fun W => W.cell? ⟨w.heap.size + 1, 0, none⟩ = some (.int .i64 x1.id) ∧ W.cell? ⟨w.heap.size + 1, 1, none⟩ = some (.slice a1_1 x1.cells.length c1_1) ∧ W.cell? ⟨wx1.heap.size, 0, none⟩ = some (.int .i64 x1.id) ∧ W.cell? ⟨wx1.heap.size, 1, none⟩ = some (.slice (some ⟨p1_1, 0, none⟩) x1.cells.length x1.cells.length))) (by kernel_rfl) ?_ (fun hHeld => ?_)
  · (first | exact CE1.out _ hx | exact CE1.out _ (SGL.out _ _ hx (Below.refl _ _).drew))
  refine wpAnyH_take (i := 0) (v := ?_) rfl (by kernel_rfl) (by kernel_rfl) (by kernel_rfl) (fun _ _ _ h => h) (Or.inl ⟨by kernel_rfl, ?_⟩) (by assumption) ?_
  rotate_left
  · (intro wS hSw; (try dsimp only at hSw); go_simp <;> with_reducible rfl)
  try simp only [Act.put, tkS]
  refine wpAnyH_take (i := 1) (v := ?_) rfl (by kernel_rfl) (by kernel_rfl) (by kernel_rfl) (fun _ _ _ h => h) (Or.inl ⟨by kernel_rfl, ?_⟩) (by assumption) ?_
  rotate_left
  · (intro wS hSw; (try dsimp only at hSw); go_simp <;> with_reducible rfl)
  try simp only [Act.put, tkS]
  refine wpAnyH_ready (rs := [2]) (by kernel_rfl) (by simp) (AllReadyH.cons rfl (fun K hK => ?_) AllReadyH.nil)
  go_simp
  (go_at_call 9; refine (TO1.out _ (by first | exact XA1.out _ hx | exact XA1.out _ (SGL.out _ _ hx (Below.refl _ _).drew))).mono ?_; rintro e we1 ⟨s1_1, rfl, ho, hB, _⟩; have h2 : Below w.heap.size w we1 ∧ we1.heap[w.heap.size]? = some (.cells #[.string ⟨x0.nm.toArray⟩, .slice a0_1 x0.cols.length c0_1, .slice a0_2 x0.uq.length c0_2, .bool x0.rt] 25) ∧ we1.heap[w.heap.size + 1]? = some (.cells #[.int .i64 x1.id, .slice a1_1 x1.cells.length c1_1] 28) ∧ we1.heap[b0]? = some (.cells #[.int .i64 R0.id, .slice ra R0.cells.length rc] 35) ∧ Rd we1 (· < wc.heap.size) (dAtomSS R0.cells) (.slice ra R0.cells.length rc) ∧ we1.heap[wx0.heap.size]? = some (.cells #[.string ⟨x0.nm.toArray⟩, .slice (some ⟨p0_1, 0, none⟩) x0.cols.length x0.cols.length, .slice (some ⟨p0_2, 0, none⟩) x0.uq.length x0.uq.length, .bool x0.rt] 40) ∧ Own we1 (dColumnS x0.cols) (Y0 1) (.slice (some ⟨p0_1, 0, none⟩) x0.cols.length x0.cols.length) ∧ Own we1 (dIntS x0.uq) (Y0 2) (.slice (some ⟨p0_2, 0, none⟩) x0.uq.length x0.uq.length) ∧ we1.heap[wx1.heap.size]? = some (.cells #[.int .i64 x1.id, .slice (some ⟨p1_1, 0, none⟩) x1.cells.length x1.cells.length] 35) ∧ Own we1 (dAtomSS x1.cells) (fun c => u1 ≤ c ∧ c < wx1.heap.size) (.slice (some ⟨p1_1, 0, none⟩) x1.cells.length x1.cells.length) ∧ Own we1 (dMutS x2) (fun c => u2 ≤ c ∧ c < wx2.heap.size) (.slice (some ⟨p2_, 0, none⟩) x2.length x2.length) ∧ we1.heap[wg.heap.size]? = some (.cells #[.int .i64 R0.id, .slice ga R0.cells.length gc] 35) ∧ Own we1 (dAtomSS R0.cells) (fun c => ug ≤ c ∧ c < wg.heap.size) (.slice ga R0.cells.length gc) := (by first | exact SGL.out _ _ hx hB | exact SGL.out _ _ (SGL.out _ _ hx (Below.refl _ _).drew) hB); clear hx; have hx := h2; clear h2; have RE1_1 : Hid (Rd _ (fun _ => True) (dAtomSS x1.cells) (.slice (some ⟨s1_1, 0, none⟩) x1.cells.length x1.cells.length)) := (Owns.one ho (j := 1) (by omega)).rd'.any; clear hB ho)
  refine hK.out _ _ ?_ (fun hHeld => ?_)
  · (first | exact CE1.out _ hx | exact CE1.out _ (SGL.out _ _ hx (Below.refl _ _).drew))
  clear hK K
  try simp only [Act.put, tkS]
  refine wpAnyH_ready (rs := [3]) (by kernel_rfl) (by simp) (AllReadyH.cons rfl (fun K hK => ?_) AllReadyH.nil)
  go_simp
  (go_at_call 12; refine (EQ1.out _ _ _ _ _ (by first | exact Rd.any (Own.rd' (hx.2.2.2.2.2.2.2.2.2.1)) | exact Rd.later (Rd.any (Own.rd' (hx.2.2.2.2.2.2.2.2.2.1))) (Below.refl _ _).drew) (by first | exact RE1_1.out | exact Rd.later RE1_1.out (Below.refl _ _).drew)).mono ?_; rintro e wf1 ⟨rfl, hB⟩; have h2 : Below w.heap.size w wf1 ∧ wf1.heap[w.heap.size]? = some (.cells #[.string ⟨x0.nm.toArray⟩, .slice a0_1 x0.cols.length c0_1, .slice a0_2 x0.uq.length c0_2, .bool x0.rt] 25) ∧ wf1.heap[w.heap.size + 1]? = some (.cells #[.int .i64 x1.id, .slice a1_1 x1.cells.length c1_1] 28) ∧ wf1.heap[b0]? = some (.cells #[.int .i64 R0.id, .slice ra R0.cells.length rc] 35) ∧ Rd wf1 (· < wc.heap.size) (dAtomSS R0.cells) (.slice ra R0.cells.length rc) ∧ wf1.heap[wx0.heap.size]? = some (.cells #[.string ⟨x0.nm.toArray⟩, .slice (some ⟨p0_1, 0, none⟩) x0.cols.length x0.cols.length, .slice (some ⟨p0_2, 0, none⟩) x0.uq.length x0.uq.length, .bool x0.rt] 40) ∧ Own wf1 (dColumnS x0.cols) (Y0 1) (.slice (some ⟨p0_1, 0, none⟩) x0.cols.length x0.cols.length) ∧ Own wf1 (dIntS x0.uq) (Y0 2) (.slice (some ⟨p0_2, 0, none⟩) x0.uq.length x0.uq.length) ∧ wf1.heap[wx1.heap.size]? = some (.cells #[.int .i64 x1.id, .slice (some ⟨p1_1, 0, none⟩) x1.cells.length x1.cells.length] 35) ∧ Own wf1 (dAtomSS x1.cells) (fun c => u1 ≤ c ∧ c < wx1.heap.size) (.slice (some ⟨p1_1, 0, none⟩) x1.cells.length x1.cells.length) ∧ Own wf1 (dMutS x2) (fun c => u2 ≤ c ∧ c < wx2.heap.size) (.slice (some ⟨p2_, 0, none⟩) x2.length x2.length) ∧ wf1.heap[wg.heap.size]? = some (.cells #[.int .i64 R0.id, .slice ga R0.cells.length gc] 35) ∧ Own wf1 (dAtomSS R0.cells) (fun c => ug ≤ c ∧ c < wg.heap.size) (.slice ga R0.cells.length gc) := (by first | exact SGL.out _ _ hx hB | exact SGL.out _ _ (SGL.out _ _ hx (Below.refl _ _).drew) hB); clear hx hB; have hx := h2; clear h2)
  refine hK.out _ _ ?_ (fun hHeld => ?_)
  · (first | exact CE1.out _ hx | exact CE1.out _ (SGL.out _ _ hx (Below.refl _ _).drew))
  clear hK K
  try simp only [Act.put, tkS]
  refine wpAnyH_take (i := 4) (v := ?_) rfl (by kernel_rfl) (by kernel_rfl) (by kernel_rfl) (fun _ _ _ h => h) (Or.inl ⟨by kernel_rfl, ?_⟩) (by assumption) ?_
  rotate_left
  · (intro wS hSw; (try dsimp only at hSw); go_simp <;> with_reducible rfl)
  try simp only [Act.put, tkS]
  refine wpAnyH_done (by kernel_rfl) ?_ _
  have N3 := Lib.hid hx
  clear f_arg0_0 f_arg0_1 f_arg0_2 f_arg0_3 f_arg1_0 f_arg1_1 f_w0_0 f_w0_1 f_x0_0 f_x0_1 f_x0_2 f_x0_3 f_x1_0 f_x1_1 f_g_0 f_g_1
  clear hx RE1_1
  have f_arg0_0 := cell_at (o := 0) N3.out.2.1 rfl
  have f_arg0_1 := cell_at (o := 1) N3.out.2.1 rfl
  have f_arg0_2 := cell_at (o := 2) N3.out.2.1 rfl
  have f_arg0_3 := cell_at (o := 3) N3.out.2.1 rfl
  have f_arg1_0 := cell_at (o := 0) N3.out.2.2.1 rfl
  have f_arg1_1 := cell_at (o := 1) N3.out.2.2.1 rfl
  have f_w0_0 := cell_at (o := 0) N3.out.2.2.2.1 rfl
  have f_w0_1 := cell_at (o := 1) N3.out.2.2.2.1 rfl
  have f_x0_0 := cell_at (o := 0) N3.out.2.2.2.2.2.1 rfl
  have f_x0_1 := cell_at (o := 1) N3.out.2.2.2.2.2.1 rfl
  have f_x0_2 := cell_at (o := 2) N3.out.2.2.2.2.2.1 rfl
  have f_x0_3 := cell_at (o := 3) N3.out.2.2.2.2.2.1 rfl
  have f_x1_0 := cell_at (o := 0) N3.out.2.2.2.2.2.2.2.2.1 rfl
  have f_x1_1 := cell_at (o := 1) N3.out.2.2.2.2.2.2.2.2.1 rfl
  have f_g_0 := cell_at (o := 0) N3.out.2.2.2.2.2.2.2.2.2.2.2.1 rfl
  have f_g_1 := cell_at (o := 1) N3.out.2.2.2.2.2.2.2.2.2.2.2.1 rfl
  go_wp2_with fail
  have CE2 : Hid (∀ W, (Below w.heap.size w W ∧ W.heap[w.heap.size]? = some (.cells #[.string ⟨x0.nm.toArray⟩, .slice a0_1 x0.cols.length c0_1, .slice a0_2 x0.uq.length c0_2, .bool x0.rt] 25) ∧ W.heap[w.heap.size + 1]? = some (.cells #[.int .i64 x1.id, .slice a1_1 x1.cells.length c1_1] 28) ∧ W.heap[b0]? = some (.cells #[.int .i64 R0.id, .slice ra R0.cells.length rc] 35) ∧ Rd W (· < wc.heap.size) (dAtomSS R0.cells) (.slice ra R0.cells.length rc) ∧ W.heap[wx0.heap.size]? = some (.cells #[.string ⟨x0.nm.toArray⟩, .slice (some ⟨p0_1, 0, none⟩) x0.cols.length x0.cols.length, .slice (some ⟨p0_2, 0, none⟩) x0.uq.length x0.uq.length, .bool x0.rt] 40) ∧ Own W (dColumnS x0.cols) (Y0 1) (.slice (some ⟨p0_1, 0, none⟩) x0.cols.length x0.cols.length) ∧ Own W (dIntS x0.uq) (Y0 2) (.slice (some ⟨p0_2, 0, none⟩) x0.uq.length x0.uq.length) ∧ W.heap[wx1.heap.size]? = some (.cells #[.int .i64 x1.id, .slice (some ⟨p1_1, 0, none⟩) x1.cells.length x1.cells.length] 35) ∧ Own W (dAtomSS x1.cells) (fun c => u1 ≤ c ∧ c < wx1.heap.size) (.slice (some ⟨p1_1, 0, none⟩) x1.cells.length x1.cells.length) ∧ Own W (dMutS x2) (fun c => u2 ≤ c ∧ c < wx2.heap.size) (.slice (some ⟨p2_, 0, none⟩) x2.length x2.length) ∧ W.heap[wg.heap.size]? = some (.cells #[.int .i64 R0.id, .slice ga R0.cells.length gc] 35) ∧ Own W (dAtomSS R0.cells) (fun c => ug ≤ c ∧ c < wg.heap.size) (.slice ga R0.cells.length gc)) → (True)) := fun W h => trivial
  have XA2 : Hid (∀ W, (Below w.heap.size w W ∧ W.heap[w.heap.size]? = some (.cells #[.string ⟨x0.nm.toArray⟩, .slice a0_1 x0.cols.length c0_1, .slice a0_2 x0.uq.length c0_2, .bool x0.rt] 25) ∧ W.heap[w.heap.size + 1]? = some (.cells #[.int .i64 x1.id, .slice a1_1 x1.cells.length c1_1] 28) ∧ W.heap[b0]? = some (.cells #[.int .i64 R0.id, .slice ra R0.cells.length rc] 35) ∧ Rd W (· < wc.heap.size) (dAtomSS R0.cells) (.slice ra R0.cells.length rc) ∧ W.heap[wx0.heap.size]? = some (.cells #[.string ⟨x0.nm.toArray⟩, .slice (some ⟨p0_1, 0, none⟩) x0.cols.length x0.cols.length, .slice (some ⟨p0_2, 0, none⟩) x0.uq.length x0.uq.length, .bool x0.rt] 40) ∧ Own W (dColumnS x0.cols) (Y0 1) (.slice (some ⟨p0_1, 0, none⟩) x0.cols.length x0.cols.length) ∧ Own W (dIntS x0.uq) (Y0 2) (.slice (some ⟨p0_2, 0, none⟩) x0.uq.length x0.uq.length) ∧ W.heap[wx1.heap.size]? = some (.cells #[.int .i64 x1.id, .slice (some ⟨p1_1, 0, none⟩) x1.cells.length x1.cells.length] 35) ∧ Own W (dAtomSS x1.cells) (fun c => u1 ≤ c ∧ c < wx1.heap.size) (.slice (some ⟨p1_1, 0, none⟩) x1.cells.length x1.cells.length) ∧ Own W (dMutS x2) (fun c => u2 ≤ c ∧ c < wx2.heap.size) (.slice (some ⟨p2_, 0, none⟩) x2.length x2.length) ∧ W.heap[wg.heap.size]? = some (.cells #[.int .i64 R0.id, .slice ga R0.cells.length gc] 35) ∧ Own W (dAtomSS R0.cells) (fun c => ug ≤ c ∧ c < wg.heap.size) (.slice ga R0.cells.length gc)) → (Below w.heap.size w W ∧ W.heap[w.heap.size]? = some (.cells #[.string ⟨x0.nm.toArray⟩, .slice a0_1 x0.cols.length c0_1, .slice a0_2 x0.uq.length c0_2, .bool x0.rt] 25) ∧ W.heap[w.heap.size + 1]? = some (.cells #[.int .i64 x1.id, .slice a1_1 x1.cells.length c1_1] 28))) := fun W h => ⟨h.1, h.2.1, h.2.2.1⟩
  have hx := N3.out
  clear N3
  refine (TO2.out _ (by first | exact XA2.out _ hx | exact XA2.out _ (SGL.out _ _ hx (Below.refl _ _).drew))).mono ?_
  rintro e we2 ⟨s2_, rfl, ho, hB, _⟩
  have h2 : Below w.heap.size w we2 ∧ we2.heap[w.heap.size]? = some (.cells #[.string ⟨x0.nm.toArray⟩, .slice a0_1 x0.cols.length c0_1, .slice a0_2 x0.uq.length c0_2, .bool x0.rt] 25) ∧ we2.heap[w.heap.size + 1]? = some (.cells #[.int .i64 x1.id, .slice a1_1 x1.cells.length c1_1] 28) ∧ we2.heap[b0]? = some (.cells #[.int .i64 R0.id, .slice ra R0.cells.length rc] 35) ∧ Rd we2 (· < wc.heap.size) (dAtomSS R0.cells) (.slice ra R0.cells.length rc) ∧ we2.heap[wx0.heap.size]? = some (.cells #[.string ⟨x0.nm.toArray⟩, .slice (some ⟨p0_1, 0, none⟩) x0.cols.length x0.cols.length, .slice (some ⟨p0_2, 0, none⟩) x0.uq.length x0.uq.length, .bool x0.rt] 40) ∧ Own we2 (dColumnS x0.cols) (Y0 1) (.slice (some ⟨p0_1, 0, none⟩) x0.cols.length x0.cols.length) ∧ Own we2 (dIntS x0.uq) (Y0 2) (.slice (some ⟨p0_2, 0, none⟩) x0.uq.length x0.uq.length) ∧ we2.heap[wx1.heap.size]? = some (.cells #[.int .i64 x1.id, .slice (some ⟨p1_1, 0, none⟩) x1.cells.length x1.cells.length] 35) ∧ Own we2 (dAtomSS x1.cells) (fun c => u1 ≤ c ∧ c < wx1.heap.size) (.slice (some ⟨p1_1, 0, none⟩) x1.cells.length x1.cells.length) ∧ Own we2 (dMutS x2) (fun c => u2 ≤ c ∧ c < wx2.heap.size) (.slice (some ⟨p2_, 0, none⟩) x2.length x2.length) ∧ we2.heap[wg.heap.size]? = some (.cells #[.int .i64 R0.id, .slice ga R0.cells.length gc] 35) ∧ Own we2 (dAtomSS R0.cells) (fun c => ug ≤ c ∧ c < wg.heap.size) (.slice ga R0.cells.length gc) := (by first | exact SGL.out _ _ hx hB | exact SGL.out _ _ (SGL.out _ _ hx (Below.refl _ _).drew) hB)
  clear hx
  have hx := h2
  clear h2
  have RE2_ : Hid (Rd _ (fun _ => True) (dMutS x2) (.slice (some ⟨s2_, 0, none⟩) x2.length x2.length)) := ho.rd'.any
  clear hB ho
  go_wp2_with fail
  refine (EQ2.out _ _ _ _ _ (by first | exact Rd.any (Own.rd' (hx.2.2.2.2.2.2.2.2.2.2.1)) | exact Rd.later (Rd.any (Own.rd' (hx.2.2.2.2.2.2.2.2.2.2.1))) (Below.refl _ _).drew) (by first | exact RE2_.out | exact Rd.later RE2_.out (Below.refl _ _).drew)).mono ?_
  rintro e wf2 ⟨rfl, hB⟩
  have h2 : Below w.heap.size w wf2 ∧ wf2.heap[w.heap.size]? = some (.cells #[.string ⟨x0.nm.toArray⟩, .slice a0_1 x0.cols.length c0_1, .slice a0_2 x0.uq.length c0_2, .bool x0.rt] 25) ∧ wf2.heap[w.heap.size + 1]? = some (.cells #[.int .i64 x1.id, .slice a1_1 x1.cells.length c1_1] 28) ∧ wf2.heap[b0]? = some (.cells #[.int .i64 R0.id, .slice ra R0.cells.length rc] 35) ∧ Rd wf2 (· < wc.heap.size) (dAtomSS R0.cells) (.slice ra R0.cells.length rc) ∧ wf2.heap[wx0.heap.size]? = some (.cells #[.string ⟨x0.nm.toArray⟩, .slice (some ⟨p0_1, 0, none⟩) x0.cols.length x0.cols.length, .slice (some ⟨p0_2, 0, none⟩) x0.uq.length x0.uq.length, .bool x0.rt] 40) ∧ Own wf2 (dColumnS x0.cols) (Y0 1) (.slice (some ⟨p0_1, 0, none⟩) x0.cols.length x0.cols.length) ∧ Own wf2 (dIntS x0.uq) (Y0 2) (.slice (some ⟨p0_2, 0, none⟩) x0.uq.length x0.uq.length) ∧ wf2.heap[wx1.heap.size]? = some (.cells #[.int .i64 x1.id, .slice (some ⟨p1_1, 0, none⟩) x1.cells.length x1.cells.length] 35) ∧ Own wf2 (dAtomSS x1.cells) (fun c => u1 ≤ c ∧ c < wx1.heap.size) (.slice (some ⟨p1_1, 0, none⟩) x1.cells.length x1.cells.length) ∧ Own wf2 (dMutS x2) (fun c => u2 ≤ c ∧ c < wx2.heap.size) (.slice (some ⟨p2_, 0, none⟩) x2.length x2.length) ∧ wf2.heap[wg.heap.size]? = some (.cells #[.int .i64 R0.id, .slice ga R0.cells.length gc] 35) ∧ Own wf2 (dAtomSS R0.cells) (fun c => ug ≤ c ∧ c < wg.heap.size) (.slice ga R0.cells.length gc) := (by first | exact SGL.out _ _ hx hB | exact SGL.out _ _ (SGL.out _ _ hx (Below.refl _ _).drew) hB)
  clear hx hB
  have hx := h2
  clear h2
  have N4 := Lib.hid hx
  clear f_arg0_0 f_arg0_1 f_arg0_2 f_arg0_3 f_arg1_0 f_arg1_1 f_w0_0 f_w0_1 f_x0_0 f_x0_1 f_x0_2 f_x0_3 f_x1_0 f_x1_1 f_g_0 f_g_1
  clear hx RE2_
  have f_arg0_0 := cell_at (o := 0) N4.out.2.1 rfl
  have f_arg0_1 := cell_at (o := 1) N4.out.2.1 rfl
  have f_arg0_2 := cell_at (o := 2) N4.out.2.1 rfl
  have f_arg0_3 := cell_at (o := 3) N4.out.2.1 rfl
  have f_arg1_0 := cell_at (o := 0) N4.out.2.2.1 rfl
  have f_arg1_1 := cell_at (o := 1) N4.out.2.2.1 rfl
  have f_w0_0 := cell_at (o := 0) N4.out.2.2.2.1 rfl
  have f_w0_1 := cell_at (o := 1) N4.out.2.2.2.1 rfl
  have f_x0_0 := cell_at (o := 0) N4.out.2.2.2.2.2.1 rfl
  have f_x0_1 := cell_at (o := 1) N4.out.2.2.2.2.2.1 rfl
  have f_x0_2 := cell_at (o := 2) N4.out.2.2.2.2.2.1 rfl
  have f_x0_3 := cell_at (o := 3) N4.out.2.2.2.2.2.1 rfl
  have f_x1_0 := cell_at (o := 0) N4.out.2.2.2.2.2.2.2.2.1 rfl
  have f_x1_1 := cell_at (o := 1) N4.out.2.2.2.2.2.2.2.2.1 rfl
  have f_g_0 := cell_at (o := 0) N4.out.2.2.2.2.2.2.2.2.2.2.2.1 rfl
  have f_g_1 := cell_at (o := 1) N4.out.2.2.2.2.2.2.2.2.2.2.2.1 rfl
  go_wp2_with fail
  have MB : Hid True := trivial
  have T0F : Hid (∀ W W', (Below w.heap.size w W ∧ W.heap[w.heap.size]? = some (.cells #[.string ⟨x0.nm.toArray⟩, .slice a0_1 x0.cols.length c0_1, .slice a0_2 x0.uq.length c0_2, .bool x0.rt] 25) ∧ W.heap[w.heap.size + 1]? = some (.cells #[.int .i64 x1.id, .slice a1_1 x1.cells.length c1_1] 28) ∧ W.heap[b0]? = some (.cells #[.int .i64 R0.id, .slice ra R0.cells.length rc] 35) ∧ Rd W (· < wc.heap.size) (dAtomSS R0.cells) (.slice ra R0.cells.length rc) ∧ W.heap[wx0.heap.size]? = some (.cells #[.string ⟨x0.nm.toArray⟩, .slice (some ⟨p0_1, 0, none⟩) x0.cols.length x0.cols.length, .slice (some ⟨p0_2, 0, none⟩) x0.uq.length x0.uq.length, .bool x0.rt] 40) ∧ Own W (dColumnS x0.cols) (Y0 1) (.slice (some ⟨p0_1, 0, none⟩) x0.cols.length x0.cols.length) ∧ Own W (dIntS x0.uq) (Y0 2) (.slice (some ⟨p0_2, 0, none⟩) x0.uq.length x0.uq.length) ∧ W.heap[wx1.heap.size]? = some (.cells #[.int .i64 x1.id, .slice (some ⟨p1_1, 0, none⟩) x1.cells.length x1.cells.length] 35) ∧ Own W (dAtomSS x1.cells) (fun c => u1 ≤ c ∧ c < wx1.heap.size) (.slice (some ⟨p1_1, 0, none⟩) x1.cells.length x1.cells.length) ∧ Own W (dMutS x2) (fun c => u2 ≤ c ∧ c < wx2.heap.size) (.slice (some ⟨p2_, 0, none⟩) x2.length x2.length) ∧ W.heap[wg.heap.size]? = some (.cells #[.int .i64 R0.id, .slice ga R0.cells.length gc] 35) ∧ Own W (dAtomSS R0.cells) (fun c => ug ≤ c ∧ c < wg.heap.size) (.slice ga R0.cells.length gc)) → Frm (fun b => (Y0 1) b ∨ (Y0 2) b) W W' → (Own W' ((dColumnS x0.cols).mkd (1)) (Y0 1) (.slice (some ⟨p0_1, 0, none⟩) x0.cols.length x0.cols.length)) → (Own W' ((dIntS x0.uq).mkd (1 + (dColumnS x0.cols).wd)) (Y0 2) (.slice (some ⟨p0_2, 0, none⟩) x0.uq.length x0.uq.length)) → (Below w.heap.size w W' ∧ W'.heap[w.heap.size]? = some (.cells #[.string ⟨x0.nm.toArray⟩, .slice a0_1 x0.cols.length c0_1, .slice a0_2 x0.uq.length c0_2, .bool x0.rt] 25) ∧ W'.heap[w.heap.size + 1]? = some (.cells #[.int .i64 x1.id, .slice a1_1 x1.cells.length c1_1] 28) ∧ W'.heap[b0]? = some (.cells #[.int .i64 R0.id, .slice ra R0.cells.length rc] 35) ∧ Rd W' (· < wc.heap.size) (dAtomSS R0.cells) (.slice ra R0.cells.length rc) ∧ W'.heap[wx0.heap.size]? = some (.cells #[.string ⟨x0.nm.toArray⟩, .slice (some ⟨p0_1, 0, none⟩) x0.cols.length x0.cols.length, .slice (some ⟨p0_2, 0, none⟩) x0.uq.length x0.uq.length, .bool x0.rt] 40) ∧ Own W' ((dColumnS x0.cols).mkd (1)) (Y0 1) (.slice (some ⟨p0_1, 0, none⟩) x0.cols.length x0.cols.length) ∧ Own W' ((dIntS x0.uq).mkd (1 + (dColumnS x0.cols).wd)) (Y0 2) (.slice (some ⟨p0_2, 0, none⟩) x0.uq.length x0.uq.length) ∧ W'.heap[wx1.heap.size]? = some (.cells #[.int .i64 x1.id, .slice (some ⟨p1_1, 0, none⟩) x1.cells.length x1.cells.length] 35) ∧ Own W' (dAtomSS x1.cells) (fun c => u1 ≤ c ∧ c < wx1.heap.size) (.slice (some ⟨p1_1, 0, none⟩) x1.cells.length x1.cells.length) ∧ Own W' (dMutS x2) (fun c => u2 ≤ c ∧ c < wx2.heap.size) (.slice (some ⟨p2_, 0, none⟩) x2.length x2.length) ∧ W'.heap[wg.heap.size]? = some (.cells #[.int .i64 R0.id, .slice ga R0.cells.length gc] 35) ∧ Own W' (dAtomSS R0.cells) (fun c => ug ≤ c ∧ c < wg.heap.size) (.slice ga R0.cells.length gc))) := fun W W' h hF ho0 ho1 => ⟨h.1.trans (Frm.below hF h.1.size (fun b hb hx => by have h1 := (fun (b : Nat) (hb : (Y0 1) b ∨ (Y0 2) b) => hb.elim (fun h => YS0.out 1 b h) (fun h => YS0.out 2 b h)) b hx; have h2 := ORD.out; omega)), (hF.block _ (Array.getElem?_eq_some_iff.1 h.2.1).1 (fun hx => by have h1 := (fun (b : Nat) (hb : (Y0 1) b ∨ (Y0 2) b) => hb.elim (fun h => YS0.out 1 b h) (fun h => YS0.out 2 b h)) _ hx; have h2 := ORD.out; omega)).trans h.2.1, (hF.block _ (Array.getElem?_eq_some_iff.1 h.2.2.1).1 (fun hx => by have h1 := (fun (b : Nat) (hb : (Y0 1) b ∨ (Y0 2) b) => hb.elim (fun h => YS0.out 1 b h) (fun h => YS0.out 2 b h)) _ hx; have h2 := ORD.out; omega)).trans h.2.2.1, (hF.block _ (Array.getElem?_eq_some_iff.1 h.2.2.2.1).1 (fun hx => by have h1 := (fun (b : Nat) (hb : (Y0 1) b ∨ (Y0 2) b) => hb.elim (fun h => YS0.out 1 b h) (fun h => YS0.out 2 b h)) _ hx; have h2 := ORD.out; omega)).trans h.2.2.2.1, h.2.2.2.2.1.frm hF (fun b hb hx => by have h1 := (fun (b : Nat) (hb : (Y0 1) b ∨ (Y0 2) b) => hb.elim (fun h => YS0.out 1 b h) (fun h => YS0.out 2 b h)) b hx; have h2 := ORD.out; have h3 : b < wc.heap.size := hb; omega), (hF.block _ (Array.getElem?_eq_some_iff.1 h.2.2.2.2.2.1).1 (fun hx => by have h1 := (fun (b : Nat) (hb : (Y0 1) b ∨ (Y0 2) b) => hb.elim (fun h => YS0.out 1 b h) (fun h => YS0.out 2 b h)) _ hx; have h2 := ORD.out; omega)).trans h.2.2.2.2.2.1, ho0, ho1, (hF.block _ (Array.getElem?_eq_some_iff.1 h.2.2.2.2.2.2.2.2.1).1 (fun hx => by have h1 := (fun (b : Nat) (hb : (Y0 1) b ∨ (Y0 2) b) => hb.elim (fun h => YS0.out 1 b h) (fun h => YS0.out 2 b h)) _ hx; have h2 := ORD.out; omega)).trans h.2.2.2.2.2.2.2.2.1, h.2.2.2.2.2.2.2.2.2.1.frm hF (fun b hb hx => by have h1 := (fun (b : Nat) (hb : (Y0 1) b ∨ (Y0 2) b) => hb.elim (fun h => YS0.out 1 b h) (fun h => YS0.out 2 b h)) b hx; have h2 := ORD.out; have h3 := (fun (b : Nat) (hb : u1 ≤ b ∧ b < wx1.heap.size) => hb) b hb; omega), h.2.2.2.2.2.2.2.2.2.2.1.frm hF (fun b hb hx => by have h1 := (fun (b : Nat) (hb : (Y0 1) b ∨ (Y0 2) b) => hb.elim (fun h => YS0.out 1 b h) (fun h => YS0.out 2 b h)) b hx; have h2 := ORD.out; have h3 := (fun (b : Nat) (hb : u2 ≤ b ∧ b < wx2.heap.size) => hb) b hb; omega), (hF.block _ (Array.getElem?_eq_some_iff.1 h.2.2.2.2.2.2.2.2.2.2.2.1).1 (fun hx => by have h1 := (fun (b : Nat) (hb : (Y0 1) b ∨ (Y0 2) b) => hb.elim (fun h => YS0.out 1 b h) (fun h => YS0.out 2 b h)) _ hx; have h2 := ORD.out; omega)).trans h.2.2.2.2.2.2.2.2.2.2.2.1, h.2.2.2.2.2.2.2.2.2.2.2.2.frm hF (fun b hb hx => by have h1 := (fun (b : Nat) (hb : (Y0 1) b ∨ (Y0 2) b) => hb.elim (fun h => YS0.out 1 b h) (fun h => YS0.out 2 b h)) b hx; have h2 := ORD.out; have h3 := (fun (b : Nat) (hb : ug ≤ b ∧ b < wg.heap.size) => hb) b hb; omega)⟩
  refine (mkDTable x0 (some ⟨p0_1, 0, none⟩) x0.cols.length (some ⟨p0_2, 0, none⟩) x0.uq.length (1) (Y0 1) (Y0 2) _ (HO0.out 1 (by omega)) (HO0.out 2 (by omega)) (by omega) (by have g1 := D.wd_le (dColumnS x0.cols) (HO0.out 1 (by omega)); have g2 := D.wd_le (dIntS x0.uq) (HO0.out 2 (by omega)); have gz := HZ0.out; rw [szT_Table] at gz; omega) (N4.out.2.2.2.2.2.2.1) (N4.out.2.2.2.2.2.2.2.1) (fun b h h2 => by have := YD0.out 1 2 b h h2; omega) (fun b h h2 => by have := YD0.out 2 1 b h h2; omega)).mono ?_
  rintro e wm0 ⟨rfl, ⟨ho, ho2⟩, hF⟩
  have N5 := Lib.hid (T0F.out _ _ N4.out hF ho ho2)
  clear f_arg0_0 f_arg0_1 f_arg0_2 f_arg0_3 f_arg1_0 f_arg1_1 f_w0_0 f_w0_1 f_x0_0 f_x0_1 f_x0_2 f_x0_3 f_x1_0 f_x1_1 f_g_0 f_g_1
  clear ho ho2 hF N4
  have T0L : Hid (∀ W W', (Below w.heap.size w W ∧ W.heap[w.heap.size]? = some (.cells #[.string ⟨x0.nm.toArray⟩, .slice a0_1 x0.cols.length c0_1, .slice a0_2 x0.uq.length c0_2, .bool x0.rt] 25) ∧ W.heap[w.heap.size + 1]? = some (.cells #[.int .i64 x1.id, .slice a1_1 x1.cells.length c1_1] 28) ∧ W.heap[b0]? = some (.cells #[.int .i64 R0.id, .slice ra R0.cells.length rc] 35) ∧ Rd W (· < wc.heap.size) (dAtomSS R0.cells) (.slice ra R0.cells.length rc) ∧ W.heap[wx0.heap.size]? = some (.cells #[.string ⟨x0.nm.toArray⟩, .slice (some ⟨p0_1, 0, none⟩) x0.cols.length x0.cols.length, .slice (some ⟨p0_2, 0, none⟩) x0.uq.length x0.uq.length, .bool x0.rt] 40) ∧ Own W ((dColumnS x0.cols).mkd (1)) (Y0 1) (.slice (some ⟨p0_1, 0, none⟩) x0.cols.length x0.cols.length) ∧ Own W ((dIntS x0.uq).mkd (1 + (dColumnS x0.cols).wd)) (Y0 2) (.slice (some ⟨p0_2, 0, none⟩) x0.uq.length x0.uq.length) ∧ W.heap[wx1.heap.size]? = some (.cells #[.int .i64 x1.id, .slice (some ⟨p1_1, 0, none⟩) x1.cells.length x1.cells.length] 35) ∧ Own W (dAtomSS x1.cells) (fun c => u1 ≤ c ∧ c < wx1.heap.size) (.slice (some ⟨p1_1, 0, none⟩) x1.cells.length x1.cells.length) ∧ Own W (dMutS x2) (fun c => u2 ≤ c ∧ c < wx2.heap.size) (.slice (some ⟨p2_, 0, none⟩) x2.length x2.length) ∧ W.heap[wg.heap.size]? = some (.cells #[.int .i64 R0.id, .slice ga R0.cells.length gc] 35) ∧ Own W (dAtomSS R0.cells) (fun c => ug ≤ c ∧ c < wg.heap.size) (.slice ga R0.cells.length gc)) → Below W.heap.size W W' → (Below w.heap.size w W' ∧ W'.heap[w.heap.size]? = some (.cells #[.string ⟨x0.nm.toArray⟩, .slice a0_1 x0.cols.length c0_1, .slice a0_2 x0.uq.length c0_2, .bool x0.rt] 25) ∧ W'.heap[w.heap.size + 1]? = some (.cells #[.int .i64 x1.id, .slice a1_1 x1.cells.length c1_1] 28) ∧ W'.heap[b0]? = some (.cells #[.int .i64 R0.id, .slice ra R0.cells.length rc] 35) ∧ Rd W' (· < wc.heap.size) (dAtomSS R0.cells) (.slice ra R0.cells.length rc) ∧ W'.heap[wx0.heap.size]? = some (.cells #[.string ⟨x0.nm.toArray⟩, .slice (some ⟨p0_1, 0, none⟩) x0.cols.length x0.cols.length, .slice (some ⟨p0_2, 0, none⟩) x0.uq.length x0.uq.length, .bool x0.rt] 40) ∧ Own W' ((dColumnS x0.cols).mkd (1)) (Y0 1) (.slice (some ⟨p0_1, 0, none⟩) x0.cols.length x0.cols.length) ∧ Own W' ((dIntS x0.uq).mkd (1 + (dColumnS x0.cols).wd)) (Y0 2) (.slice (some ⟨p0_2, 0, none⟩) x0.uq.length x0.uq.length) ∧ W'.heap[wx1.heap.size]? = some (.cells #[.int .i64 x1.id, .slice (some ⟨p1_1, 0, none⟩) x1.cells.length x1.cells.length] 35) ∧ Own W' (dAtomSS x1.cells) (fun c => u1 ≤ c ∧ c < wx1.heap.size) (.slice (some ⟨p1_1, 0, none⟩) x1.cells.length x1.cells.length) ∧ Own W' (dMutS x2) (fun c => u2 ≤ c ∧ c < wx2.heap.size) (.slice (some ⟨p2_, 0, none⟩) x2.length x2.length) ∧ W'.heap[wg.heap.size]? = some (.cells #[.int .i64 R0.id, .slice ga R0.cells.length gc] 35) ∧ Own W' (dAtomSS R0.cells) (fun c => ug ≤ c ∧ c < wg.heap.size) (.slice ga R0.cells.length gc))) := fun W W' h hB => ⟨h.1.trans (hB.mono h.1.size), heap_keptD h.2.1 hB, heap_keptD h.2.2.1 hB, heap_keptD h.2.2.2.1 hB, h.2.2.2.2.1.later hB, heap_keptD h.2.2.2.2.2.1 hB, h.2.2.2.2.2.2.1.later hB, h.2.2.2.2.2.2.2.1.later hB, heap_keptD h.2.2.2.2.2.2.2.2.1 hB, h.2.2.2.2.2.2.2.2.2.1.later hB, h.2.2.2.2.2.2.2.2.2.2.1.later hB, heap_keptD h.2.2.2.2.2.2.2.2.2.2.2.1 hB, h.2.2.2.2.2.2.2.2.2.2.2.2.later hB⟩
  obtain ⟨k0, hk0⟩ : ∃ y : Nat, y = 1 + (dColumnS x0.cols).wd + (dIntS x0.uq).wd := ⟨_, rfl⟩
  rw [← hk0]
  have hkb0 : Hid (k0 < 1000000000 ∧ 0 < k0) := by rw [hk0]; have g1 := D.wd_le (dColumnS x0.cols) (HO0.out 1 (by omega)); have g2 := D.wd_le (dIntS x0.uq) (HO0.out 2 (by omega)); have gz := HZ0.out; rw [szT_Table] at gz; show _ ∧ _; omega
  have dk0 : decide ((k0 : Int) < 0) = false := by simp
  clear hk0
  have f_arg0_0 := cell_at (o := 0) N5.out.2.1 rfl
  have f_arg0_1 := cell_at (o := 1) N5.out.2.1 rfl
  have f_arg0_2 := cell_at (o := 2) N5.out.2.1 rfl
  have f_arg0_3 := cell_at (o := 3) N5.out.2.1 rfl
  have f_arg1_0 := cell_at (o := 0) N5.out.2.2.1 rfl
  have f_arg1_1 := cell_at (o := 1) N5.out.2.2.1 rfl
  have f_w0_0 := cell_at (o := 0) N5.out.2.2.2.1 rfl
  have f_w0_1 := cell_at (o := 1) N5.out.2.2.2.1 rfl
  have f_x0_0 := cell_at (o := 0) N5.out.2.2.2.2.2.1 rfl
  have f_x0_1 := cell_at (o := 1) N5.out.2.2.2.2.2.1 rfl
  have f_x0_2 := cell_at (o := 2) N5.out.2.2.2.2.2.1 rfl
  have f_x0_3 := cell_at (o := 3) N5.out.2.2.2.2.2.1 rfl
  have f_x1_0 := cell_at (o := 0) N5.out.2.2.2.2.2.2.2.2.1 rfl
  have f_x1_1 := cell_at (o := 1) N5.out.2.2.2.2.2.2.2.2.1 rfl
  have f_g_0 := cell_at (o := 0) N5.out.2.2.2.2.2.2.2.2.2.2.2.1 rfl
  have f_g_1 := cell_at (o := 1) N5.out.2.2.2.2.2.2.2.2.2.2.2.1 rfl
  go_wp2_with fail
  have T1F : Hid (∀ W W', (Below w.heap.size w W ∧ W.heap[w.heap.size]? = some (.cells #[.string ⟨x0.nm.toArray⟩, .slice a0_1 x0.cols.length c0_1, .slice a0_2 x0.uq.length c0_2, .bool x0.rt] 25) ∧ W.heap[w.heap.size + 1]? = some (.cells #[.int .i64 x1.id, .slice a1_1 x1.cells.length c1_1] 28) ∧ W.heap[b0]? = some (.cells #[.int .i64 R0.id, .slice ra R0.cells.length rc] 35) ∧ Rd W (· < wc.heap.size) (dAtomSS R0.cells) (.slice ra R0.cells.length rc) ∧ W.heap[wx0.heap.size]? = some (.cells #[.string ⟨x0.nm.toArray⟩, .slice (some ⟨p0_1, 0, none⟩) x0.cols.length x0.cols.length, .slice (some ⟨p0_2, 0, none⟩) x0.uq.length x0.uq.length, .bool x0.rt] 40) ∧ Own W ((dColumnS x0.cols).mkd (1)) (Y0 1) (.slice (some ⟨p0_1, 0, none⟩) x0.cols.length x0.cols.length) ∧ Own W ((dIntS x0.uq).mkd (1 + (dColumnS x0.cols).wd)) (Y0 2) (.slice (some ⟨p0_2, 0, none⟩) x0.uq.length x0.uq.length) ∧ W.heap[wx1.heap.size]? = some (.cells #[.int .i64 x1.id, .slice (some ⟨p1_1, 0, none⟩) x1.cells.length x1.cells.length] 35) ∧ Own W (dAtomSS x1.cells) (fun c => u1 ≤ c ∧ c < wx1.heap.size) (.slice (some ⟨p1_1, 0, none⟩) x1.cells.length x1.cells.length) ∧ Own W (dMutS x2) (fun c => u2 ≤ c ∧ c < wx2.heap.size) (.slice (some ⟨p2_, 0, none⟩) x2.length x2.length) ∧ W.heap[wg.heap.size]? = some (.cells #[.int .i64 R0.id, .slice ga R0.cells.length gc] 35) ∧ Own W (dAtomSS R0.cells) (fun c => ug ≤ c ∧ c < wg.heap.size) (.slice ga R0.cells.length gc)) → Frm (fun c => u1 ≤ c ∧ c < wx1.heap.size) W W' → (Own W' ((dAtomSS x1.cells).mkd (k0)) (fun c => u1 ≤ c ∧ c < wx1.heap.size) (.slice (some ⟨p1_1, 0, none⟩) x1.cells.length x1.cells.length)) → (Below w.heap.size w W' ∧ W'.heap[w.heap.size]? = some (.cells #[.string ⟨x0.nm.toArray⟩, .slice a0_1 x0.cols.length c0_1, .slice a0_2 x0.uq.length c0_2, .bool x0.rt] 25) ∧ W'.heap[w.heap.size + 1]? = some (.cells #[.int .i64 x1.id, .slice a1_1 x1.cells.length c1_1] 28) ∧ W'.heap[b0]? = some (.cells #[.int .i64 R0.id, .slice ra R0.cells.length rc] 35) ∧ Rd W' (· < wc.heap.size) (dAtomSS R0.cells) (.slice ra R0.cells.length rc) ∧ W'.heap[wx0.heap.size]? = some (.cells #[.string ⟨x0.nm.toArray⟩, .slice (some ⟨p0_1, 0, none⟩) x0.cols.length x0.cols.length, .slice (some ⟨p0_2, 0, none⟩) x0.uq.length x0.uq.length, .bool x0.rt] 40) ∧ Own W' ((dColumnS x0.cols).mkd (1)) (Y0 1) (.slice (some ⟨p0_1, 0, none⟩) x0.cols.length x0.cols.length) ∧ Own W' ((dIntS x0.uq).mkd (1 + (dColumnS x0.cols).wd)) (Y0 2) (.slice (some ⟨p0_2, 0, none⟩) x0.uq.length x0.uq.length) ∧ W'.heap[wx1.heap.size]? = some (.cells #[.int .i64 x1.id, .slice (some ⟨p1_1, 0, none⟩) x1.cells.length x1.cells.length] 35) ∧ Own W' ((dAtomSS x1.cells).mkd (k0)) (fun c => u1 ≤ c ∧ c < wx1.heap.size) (.slice (some ⟨p1_1, 0, none⟩) x1.cells.length x1.cells.length) ∧ Own W' (dMutS x2) (fun c => u2 ≤ c ∧ c < wx2.heap.size) (.slice (some ⟨p2_, 0, none⟩) x2.length x2.length) ∧ W'.heap[wg.heap.size]? = some (.cells #[.int .i64 R0.id, .slice ga R0.cells.length gc] 35) ∧ Own W' (dAtomSS R0.cells) (fun c => ug ≤ c ∧ c < wg.heap.size) (.slice ga R0.cells.length gc))) := fun W W' h hF ho0 => ⟨h.1.trans (Frm.below hF h.1.size (fun b hb hx => by have h1 := (fun (b : Nat) (hb : u1 ≤ b ∧ b < wx1.heap.size) => hb) b hx; have h2 := ORD.out; omega)), (hF.block _ (Array.getElem?_eq_some_iff.1 h.2.1).1 (fun hx => by have h1 := (fun (b : Nat) (hb : u1 ≤ b ∧ b < wx1.heap.size) => hb) _ hx; have h2 := ORD.out; omega)).trans h.2.1, (hF.block _ (Array.getElem?_eq_some_iff.1 h.2.2.1).1 (fun hx => by have h1 := (fun (b : Nat) (hb : u1 ≤ b ∧ b < wx1.heap.size) => hb) _ hx; have h2 := ORD.out; omega)).trans h.2.2.1, (hF.block _ (Array.getElem?_eq_some_iff.1 h.2.2.2.1).1 (fun hx => by have h1 := (fun (b : Nat) (hb : u1 ≤ b ∧ b < wx1.heap.size) => hb) _ hx; have h2 := ORD.out; omega)).trans h.2.2.2.1, h.2.2.2.2.1.frm hF (fun b hb hx => by have h1 := (fun (b : Nat) (hb : u1 ≤ b ∧ b < wx1.heap.size) => hb) b hx; have h2 := ORD.out; have h3 : b < wc.heap.size := hb; omega), (hF.block _ (Array.getElem?_eq_some_iff.1 h.2.2.2.2.2.1).1 (fun hx => by have h1 := (fun (b : Nat) (hb : u1 ≤ b ∧ b < wx1.heap.size) => hb) _ hx; have h2 := ORD.out; omega)).trans h.2.2.2.2.2.1, h.2.2.2.2.2.2.1.frm hF (fun b hb hx => by have h1 := (fun (b : Nat) (hb : u1 ≤ b ∧ b < wx1.heap.size) => hb) b hx; have h2 := ORD.out; have h3 := (fun b hb => YS0.out 1 b hb) b hb; omega), h.2.2.2.2.2.2.2.1.frm hF (fun b hb hx => by have h1 := (fun (b : Nat) (hb : u1 ≤ b ∧ b < wx1.heap.size) => hb) b hx; have h2 := ORD.out; have h3 := (fun b hb => YS0.out 2 b hb) b hb; omega), (hF.block _ (Array.getElem?_eq_some_iff.1 h.2.2.2.2.2.2.2.2.1).1 (fun hx => by have h1 := (fun (b : Nat) (hb : u1 ≤ b ∧ b < wx1.heap.size) => hb) _ hx; have h2 := ORD.out; omega)).trans h.2.2.2.2.2.2.2.2.1, ho0, h.2.2.2.2.2.2.2.2.2.2.1.frm hF (fun b hb hx => by have h1 := (fun (b : Nat) (hb : u1 ≤ b ∧ b < wx1.heap.size) => hb) b hx; have h2 := ORD.out; have h3 := (fun (b : Nat) (hb : u2 ≤ b ∧ b < wx2.heap.size) => hb) b hb; omega), (hF.block _ (Array.getElem?_eq_some_iff.1 h.2.2.2.2.2.2.2.2.2.2.2.1).1 (fun hx => by have h1 := (fun (b : Nat) (hb : u1 ≤ b ∧ b < wx1.heap.size) => hb) _ hx; have h2 := ORD.out; omega)).trans h.2.2.2.2.2.2.2.2.2.2.2.1, h.2.2.2.2.2.2.2.2.2.2.2.2.frm hF (fun b hb hx => by have h1 := (fun (b : Nat) (hb : u1 ≤ b ∧ b < wx1.heap.size) => hb) b hx; have h2 := ORD.out; have h3 := (fun (b : Nat) (hb : ug ≤ b ∧ b < wg.heap.size) => hb) b hb; omega)⟩
  refine (mkDRow x1 (some ⟨p1_1, 0, none⟩) x1.cells.length (k0) (fun c => u1 ≤ c ∧ c < wx1.heap.size) _ (HO1.out 1 (by omega)) (by have gk := hkb0.out; omega) (by have gk := hkb0.out; have g1 := D.wd_le (dAtomSS x1.cells) (HO1.out 1 (by omega)); have gz := HZ1.out; rw [szT_Row] at gz; omega) (N5.out.2.2.2.2.2.2.2.2.2.1)).mono ?_
  rintro e wm1 ⟨rfl, ho, hF⟩
  have N6 := Lib.hid (T1F.out _ _ N5.out hF ho)
  clear f_arg0_0 f_arg0_1 f_arg0_2 f_arg0_3 f_arg1_0 f_arg1_1 f_w0_0 f_w0_1 f_x0_0 f_x0_1 f_x0_2 f_x0_3 f_x1_0 f_x1_1 f_g_0 f_g_1
  clear ho hF N5
  have T1L : Hid (∀ W W', (Below w.heap.size w W ∧ W.heap[w.heap.size]? = some (.cells #[.string ⟨x0.nm.toArray⟩, .slice a0_1 x0.cols.length c0_1, .slice a0_2 x0.uq.length c0_2, .bool x0.rt] 25) ∧ W.heap[w.heap.size + 1]? = some (.cells #[.int .i64 x1.id, .slice a1_1 x1.cells.length c1_1] 28) ∧ W.heap[b0]? = some (.cells #[.int .i64 R0.id, .slice ra R0.cells.length rc] 35) ∧ Rd W (· < wc.heap.size) (dAtomSS R0.cells) (.slice ra R0.cells.length rc) ∧ W.heap[wx0.heap.size]? = some (.cells #[.string ⟨x0.nm.toArray⟩, .slice (some ⟨p0_1, 0, none⟩) x0.cols.length x0.cols.length, .slice (some ⟨p0_2, 0, none⟩) x0.uq.length x0.uq.length, .bool x0.rt] 40) ∧ Own W ((dColumnS x0.cols).mkd (1)) (Y0 1) (.slice (some ⟨p0_1, 0, none⟩) x0.cols.length x0.cols.length) ∧ Own W ((dIntS x0.uq).mkd (1 + (dColumnS x0.cols).wd)) (Y0 2) (.slice (some ⟨p0_2, 0, none⟩) x0.uq.length x0.uq.length) ∧ W.heap[wx1.heap.size]? = some (.cells #[.int .i64 x1.id, .slice (some ⟨p1_1, 0, none⟩) x1.cells.length x1.cells.length] 35) ∧ Own W ((dAtomSS x1.cells).mkd (k0)) (fun c => u1 ≤ c ∧ c < wx1.heap.size) (.slice (some ⟨p1_1, 0, none⟩) x1.cells.length x1.cells.length) ∧ Own W (dMutS x2) (fun c => u2 ≤ c ∧ c < wx2.heap.size) (.slice (some ⟨p2_, 0, none⟩) x2.length x2.length) ∧ W.heap[wg.heap.size]? = some (.cells #[.int .i64 R0.id, .slice ga R0.cells.length gc] 35) ∧ Own W (dAtomSS R0.cells) (fun c => ug ≤ c ∧ c < wg.heap.size) (.slice ga R0.cells.length gc)) → Below W.heap.size W W' → (Below w.heap.size w W' ∧ W'.heap[w.heap.size]? = some (.cells #[.string ⟨x0.nm.toArray⟩, .slice a0_1 x0.cols.length c0_1, .slice a0_2 x0.uq.length c0_2, .bool x0.rt] 25) ∧ W'.heap[w.heap.size + 1]? = some (.cells #[.int .i64 x1.id, .slice a1_1 x1.cells.length c1_1] 28) ∧ W'.heap[b0]? = some (.cells #[.int .i64 R0.id, .slice ra R0.cells.length rc] 35) ∧ Rd W' (· < wc.heap.size) (dAtomSS R0.cells) (.slice ra R0.cells.length rc) ∧ W'.heap[wx0.heap.size]? = some (.cells #[.string ⟨x0.nm.toArray⟩, .slice (some ⟨p0_1, 0, none⟩) x0.cols.length x0.cols.length, .slice (some ⟨p0_2, 0, none⟩) x0.uq.length x0.uq.length, .bool x0.rt] 40) ∧ Own W' ((dColumnS x0.cols).mkd (1)) (Y0 1) (.slice (some ⟨p0_1, 0, none⟩) x0.cols.length x0.cols.length) ∧ Own W' ((dIntS x0.uq).mkd (1 + (dColumnS x0.cols).wd)) (Y0 2) (.slice (some ⟨p0_2, 0, none⟩) x0.uq.length x0.uq.length) ∧ W'.heap[wx1.heap.size]? = some (.cells #[.int .i64 x1.id, .slice (some ⟨p1_1, 0, none⟩) x1.cells.length x1.cells.length] 35) ∧ Own W' ((dAtomSS x1.cells).mkd (k0)) (fun c => u1 ≤ c ∧ c < wx1.heap.size) (.slice (some ⟨p1_1, 0, none⟩) x1.cells.length x1.cells.length) ∧ Own W' (dMutS x2) (fun c => u2 ≤ c ∧ c < wx2.heap.size) (.slice (some ⟨p2_, 0, none⟩) x2.length x2.length) ∧ W'.heap[wg.heap.size]? = some (.cells #[.int .i64 R0.id, .slice ga R0.cells.length gc] 35) ∧ Own W' (dAtomSS R0.cells) (fun c => ug ≤ c ∧ c < wg.heap.size) (.slice ga R0.cells.length gc))) := fun W W' h hB => ⟨h.1.trans (hB.mono h.1.size), heap_keptD h.2.1 hB, heap_keptD h.2.2.1 hB, heap_keptD h.2.2.2.1 hB, h.2.2.2.2.1.later hB, heap_keptD h.2.2.2.2.2.1 hB, h.2.2.2.2.2.2.1.later hB, h.2.2.2.2.2.2.2.1.later hB, heap_keptD h.2.2.2.2.2.2.2.2.1 hB, h.2.2.2.2.2.2.2.2.2.1.later hB, h.2.2.2.2.2.2.2.2.2.2.1.later hB, heap_keptD h.2.2.2.2.2.2.2.2.2.2.2.1 hB, h.2.2.2.2.2.2.2.2.2.2.2.2.later hB⟩
  obtain ⟨k1, hk1⟩ : ∃ y : Nat, y = k0 + (dAtomSS x1.cells).wd := ⟨_, rfl⟩
  rw [← hk1]
  have hkb1 : Hid (k1 < 2000000000 ∧ 0 < k1) := by rw [hk1]; have gk := hkb0.out; have g1 := D.wd_le (dAtomSS x1.cells) (HO1.out 1 (by omega)); have gz := HZ1.out; rw [szT_Row] at gz; show _ ∧ _; omega
  have dk1 : decide ((k1 : Int) < 0) = false := by simp
  clear hk1
  have f_arg0_0 := cell_at (o := 0) N6.out.2.1 rfl
  have f_arg0_1 := cell_at (o := 1) N6.out.2.1 rfl
  have f_arg0_2 := cell_at (o := 2) N6.out.2.1 rfl
  have f_arg0_3 := cell_at (o := 3) N6.out.2.1 rfl
  have f_arg1_0 := cell_at (o := 0) N6.out.2.2.1 rfl
  have f_arg1_1 := cell_at (o := 1) N6.out.2.2.1 rfl
  have f_w0_0 := cell_at (o := 0) N6.out.2.2.2.1 rfl
  have f_w0_1 := cell_at (o := 1) N6.out.2.2.2.1 rfl
  have f_x0_0 := cell_at (o := 0) N6.out.2.2.2.2.2.1 rfl
  have f_x0_1 := cell_at (o := 1) N6.out.2.2.2.2.2.1 rfl
  have f_x0_2 := cell_at (o := 2) N6.out.2.2.2.2.2.1 rfl
  have f_x0_3 := cell_at (o := 3) N6.out.2.2.2.2.2.1 rfl
  have f_x1_0 := cell_at (o := 0) N6.out.2.2.2.2.2.2.2.2.1 rfl
  have f_x1_1 := cell_at (o := 1) N6.out.2.2.2.2.2.2.2.2.1 rfl
  have f_g_0 := cell_at (o := 0) N6.out.2.2.2.2.2.2.2.2.2.2.2.1 rfl
  have f_g_1 := cell_at (o := 1) N6.out.2.2.2.2.2.2.2.2.2.2.2.1 rfl
  go_wp2_with fail
  have T2F : Hid (∀ W W', (Below w.heap.size w W ∧ W.heap[w.heap.size]? = some (.cells #[.string ⟨x0.nm.toArray⟩, .slice a0_1 x0.cols.length c0_1, .slice a0_2 x0.uq.length c0_2, .bool x0.rt] 25) ∧ W.heap[w.heap.size + 1]? = some (.cells #[.int .i64 x1.id, .slice a1_1 x1.cells.length c1_1] 28) ∧ W.heap[b0]? = some (.cells #[.int .i64 R0.id, .slice ra R0.cells.length rc] 35) ∧ Rd W (· < wc.heap.size) (dAtomSS R0.cells) (.slice ra R0.cells.length rc) ∧ W.heap[wx0.heap.size]? = some (.cells #[.string ⟨x0.nm.toArray⟩, .slice (some ⟨p0_1, 0, none⟩) x0.cols.length x0.cols.length, .slice (some ⟨p0_2, 0, none⟩) x0.uq.length x0.uq.length, .bool x0.rt] 40) ∧ Own W ((dColumnS x0.cols).mkd (1)) (Y0 1) (.slice (some ⟨p0_1, 0, none⟩) x0.cols.length x0.cols.length) ∧ Own W ((dIntS x0.uq).mkd (1 + (dColumnS x0.cols).wd)) (Y0 2) (.slice (some ⟨p0_2, 0, none⟩) x0.uq.length x0.uq.length) ∧ W.heap[wx1.heap.size]? = some (.cells #[.int .i64 x1.id, .slice (some ⟨p1_1, 0, none⟩) x1.cells.length x1.cells.length] 35) ∧ Own W ((dAtomSS x1.cells).mkd (k0)) (fun c => u1 ≤ c ∧ c < wx1.heap.size) (.slice (some ⟨p1_1, 0, none⟩) x1.cells.length x1.cells.length) ∧ Own W (dMutS x2) (fun c => u2 ≤ c ∧ c < wx2.heap.size) (.slice (some ⟨p2_, 0, none⟩) x2.length x2.length) ∧ W.heap[wg.heap.size]? = some (.cells #[.int .i64 R0.id, .slice ga R0.cells.length gc] 35) ∧ Own W (dAtomSS R0.cells) (fun c => ug ≤ c ∧ c < wg.heap.size) (.slice ga R0.cells.length gc)) → Frm (fun c => u2 ≤ c ∧ c < wx2.heap.size) W W' → (Own W' ((dMutS x2).mkd (k1)) (fun c => u2 ≤ c ∧ c < wx2.heap.size) (.slice (some ⟨p2_, 0, none⟩) x2.length x2.length)) → (Below w.heap.size w W' ∧ W'.heap[w.heap.size]? = some (.cells #[.string ⟨x0.nm.toArray⟩, .slice a0_1 x0.cols.length c0_1, .slice a0_2 x0.uq.length c0_2, .bool x0.rt] 25) ∧ W'.heap[w.heap.size + 1]? = some (.cells #[.int .i64 x1.id, .slice a1_1 x1.cells.length c1_1] 28) ∧ W'.heap[b0]? = some (.cells #[.int .i64 R0.id, .slice ra R0.cells.length rc] 35) ∧ Rd W' (· < wc.heap.size) (dAtomSS R0.cells) (.slice ra R0.cells.length rc) ∧ W'.heap[wx0.heap.size]? = some (.cells #[.string ⟨x0.nm.toArray⟩, .slice (some ⟨p0_1, 0, none⟩) x0.cols.length x0.cols.length, .slice (some ⟨p0_2, 0, none⟩) x0.uq.length x0.uq.length, .bool x0.rt] 40) ∧ Own W' ((dColumnS x0.cols).mkd (1)) (Y0 1) (.slice (some ⟨p0_1, 0, none⟩) x0.cols.length x0.cols.length) ∧ Own W' ((dIntS x0.uq).mkd (1 + (dColumnS x0.cols).wd)) (Y0 2) (.slice (some ⟨p0_2, 0, none⟩) x0.uq.length x0.uq.length) ∧ W'.heap[wx1.heap.size]? = some (.cells #[.int .i64 x1.id, .slice (some ⟨p1_1, 0, none⟩) x1.cells.length x1.cells.length] 35) ∧ Own W' ((dAtomSS x1.cells).mkd (k0)) (fun c => u1 ≤ c ∧ c < wx1.heap.size) (.slice (some ⟨p1_1, 0, none⟩) x1.cells.length x1.cells.length) ∧ Own W' ((dMutS x2).mkd (k1)) (fun c => u2 ≤ c ∧ c < wx2.heap.size) (.slice (some ⟨p2_, 0, none⟩) x2.length x2.length) ∧ W'.heap[wg.heap.size]? = some (.cells #[.int .i64 R0.id, .slice ga R0.cells.length gc] 35) ∧ Own W' (dAtomSS R0.cells) (fun c => ug ≤ c ∧ c < wg.heap.size) (.slice ga R0.cells.length gc))) := fun W W' h hF ho0 => ⟨h.1.trans (Frm.below hF h.1.size (fun b hb hx => by have h1 := (fun (b : Nat) (hb : u2 ≤ b ∧ b < wx2.heap.size) => hb) b hx; have h2 := ORD.out; omega)), (hF.block _ (Array.getElem?_eq_some_iff.1 h.2.1).1 (fun hx => by have h1 := (fun (b : Nat) (hb : u2 ≤ b ∧ b < wx2.heap.size) => hb) _ hx; have h2 := ORD.out; omega)).trans h.2.1, (hF.block _ (Array.getElem?_eq_some_iff.1 h.2.2.1).1 (fun hx => by have h1 := (fun (b : Nat) (hb : u2 ≤ b ∧ b < wx2.heap.size) => hb) _ hx; have h2 := ORD.out; omega)).trans h.2.2.1, (hF.block _ (Array.getElem?_eq_some_iff.1 h.2.2.2.1).1 (fun hx => by have h1 := (fun (b : Nat) (hb : u2 ≤ b ∧ b < wx2.heap.size) => hb) _ hx; have h2 := ORD.out; omega)).trans h.2.2.2.1, h.2.2.2.2.1.frm hF (fun b hb hx => by have h1 := (fun (b : Nat) (hb : u2 ≤ b ∧ b < wx2.heap.size) => hb) b hx; have h2 := ORD.out; have h3 : b < wc.heap.size := hb; omega), (hF.block _ (Array.getElem?_eq_some_iff.1 h.2.2.2.2.2.1).1 (fun hx => by have h1 := (fun (b : Nat) (hb : u2 ≤ b ∧ b < wx2.heap.size) => hb) _ hx; have h2 := ORD.out; omega)).trans h.2.2.2.2.2.1, h.2.2.2.2.2.2.1.frm hF (fun b hb hx => by have h1 := (fun (b : Nat) (hb : u2 ≤ b ∧ b < wx2.heap.size) => hb) b hx; have h2 := ORD.out; have h3 := (fun b hb => YS0.out 1 b hb) b hb; omega), h.2.2.2.2.2.2.2.1.frm hF (fun b hb hx => by have h1 := (fun (b : Nat) (hb : u2 ≤ b ∧ b < wx2.heap.size) => hb) b hx; have h2 := ORD.out; have h3 := (fun b hb => YS0.out 2 b hb) b hb; omega), (hF.block _ (Array.getElem?_eq_some_iff.1 h.2.2.2.2.2.2.2.2.1).1 (fun hx => by have h1 := (fun (b : Nat) (hb : u2 ≤ b ∧ b < wx2.heap.size) => hb) _ hx; have h2 := ORD.out; omega)).trans h.2.2.2.2.2.2.2.2.1, h.2.2.2.2.2.2.2.2.2.1.frm hF (fun b hb hx => by have h1 := (fun (b : Nat) (hb : u2 ≤ b ∧ b < wx2.heap.size) => hb) b hx; have h2 := ORD.out; have h3 := (fun (b : Nat) (hb : u1 ≤ b ∧ b < wx1.heap.size) => hb) b hb; omega), ho0, (hF.block _ (Array.getElem?_eq_some_iff.1 h.2.2.2.2.2.2.2.2.2.2.2.1).1 (fun hx => by have h1 := (fun (b : Nat) (hb : u2 ≤ b ∧ b < wx2.heap.size) => hb) _ hx; have h2 := ORD.out; omega)).trans h.2.2.2.2.2.2.2.2.2.2.2.1, h.2.2.2.2.2.2.2.2.2.2.2.2.frm hF (fun b hb hx => by have h1 := (fun (b : Nat) (hb : u2 ≤ b ∧ b < wx2.heap.size) => hb) b hx; have h2 := ORD.out; have h3 := (fun (b : Nat) (hb : ug ≤ b ∧ b < wg.heap.size) => hb) b hb; omega)⟩
  refine (mkDMutS x2 (some ⟨p2_, 0, none⟩) x2.length (k1) (fun c => u2 ≤ c ∧ c < wx2.heap.size) _ HO2.out (by have gk := hkb1.out; omega) (by have gk := hkb1.out; have g := D.wd_le (dMutS x2) (HO2.out); have gz := HZ2.out; omega) (N6.out.2.2.2.2.2.2.2.2.2.2.1)).mono ?_
  rintro e wm2 ⟨rfl, ho, hF⟩
  have N7 := Lib.hid (T2F.out _ _ N6.out hF ho)
  clear f_arg0_0 f_arg0_1 f_arg0_2 f_arg0_3 f_arg1_0 f_arg1_1 f_w0_0 f_w0_1 f_x0_0 f_x0_1 f_x0_2 f_x0_3 f_x1_0 f_x1_1 f_g_0 f_g_1
  clear ho hF N6
  have T2L : Hid (∀ W W', (Below w.heap.size w W ∧ W.heap[w.heap.size]? = some (.cells #[.string ⟨x0.nm.toArray⟩, .slice a0_1 x0.cols.length c0_1, .slice a0_2 x0.uq.length c0_2, .bool x0.rt] 25) ∧ W.heap[w.heap.size + 1]? = some (.cells #[.int .i64 x1.id, .slice a1_1 x1.cells.length c1_1] 28) ∧ W.heap[b0]? = some (.cells #[.int .i64 R0.id, .slice ra R0.cells.length rc] 35) ∧ Rd W (· < wc.heap.size) (dAtomSS R0.cells) (.slice ra R0.cells.length rc) ∧ W.heap[wx0.heap.size]? = some (.cells #[.string ⟨x0.nm.toArray⟩, .slice (some ⟨p0_1, 0, none⟩) x0.cols.length x0.cols.length, .slice (some ⟨p0_2, 0, none⟩) x0.uq.length x0.uq.length, .bool x0.rt] 40) ∧ Own W ((dColumnS x0.cols).mkd (1)) (Y0 1) (.slice (some ⟨p0_1, 0, none⟩) x0.cols.length x0.cols.length) ∧ Own W ((dIntS x0.uq).mkd (1 + (dColumnS x0.cols).wd)) (Y0 2) (.slice (some ⟨p0_2, 0, none⟩) x0.uq.length x0.uq.length) ∧ W.heap[wx1.heap.size]? = some (.cells #[.int .i64 x1.id, .slice (some ⟨p1_1, 0, none⟩) x1.cells.length x1.cells.length] 35) ∧ Own W ((dAtomSS x1.cells).mkd (k0)) (fun c => u1 ≤ c ∧ c < wx1.heap.size) (.slice (some ⟨p1_1, 0, none⟩) x1.cells.length x1.cells.length) ∧ Own W ((dMutS x2).mkd (k1)) (fun c => u2 ≤ c ∧ c < wx2.heap.size) (.slice (some ⟨p2_, 0, none⟩) x2.length x2.length) ∧ W.heap[wg.heap.size]? = some (.cells #[.int .i64 R0.id, .slice ga R0.cells.length gc] 35) ∧ Own W (dAtomSS R0.cells) (fun c => ug ≤ c ∧ c < wg.heap.size) (.slice ga R0.cells.length gc)) → Below W.heap.size W W' → (Below w.heap.size w W' ∧ W'.heap[w.heap.size]? = some (.cells #[.string ⟨x0.nm.toArray⟩, .slice a0_1 x0.cols.length c0_1, .slice a0_2 x0.uq.length c0_2, .bool x0.rt] 25) ∧ W'.heap[w.heap.size + 1]? = some (.cells #[.int .i64 x1.id, .slice a1_1 x1.cells.length c1_1] 28) ∧ W'.heap[b0]? = some (.cells #[.int .i64 R0.id, .slice ra R0.cells.length rc] 35) ∧ Rd W' (· < wc.heap.size) (dAtomSS R0.cells) (.slice ra R0.cells.length rc) ∧ W'.heap[wx0.heap.size]? = some (.cells #[.string ⟨x0.nm.toArray⟩, .slice (some ⟨p0_1, 0, none⟩) x0.cols.length x0.cols.length, .slice (some ⟨p0_2, 0, none⟩) x0.uq.length x0.uq.length, .bool x0.rt] 40) ∧ Own W' ((dColumnS x0.cols).mkd (1)) (Y0 1) (.slice (some ⟨p0_1, 0, none⟩) x0.cols.length x0.cols.length) ∧ Own W' ((dIntS x0.uq).mkd (1 + (dColumnS x0.cols).wd)) (Y0 2) (.slice (some ⟨p0_2, 0, none⟩) x0.uq.length x0.uq.length) ∧ W'.heap[wx1.heap.size]? = some (.cells #[.int .i64 x1.id, .slice (some ⟨p1_1, 0, none⟩) x1.cells.length x1.cells.length] 35) ∧ Own W' ((dAtomSS x1.cells).mkd (k0)) (fun c => u1 ≤ c ∧ c < wx1.heap.size) (.slice (some ⟨p1_1, 0, none⟩) x1.cells.length x1.cells.length) ∧ Own W' ((dMutS x2).mkd (k1)) (fun c => u2 ≤ c ∧ c < wx2.heap.size) (.slice (some ⟨p2_, 0, none⟩) x2.length x2.length) ∧ W'.heap[wg.heap.size]? = some (.cells #[.int .i64 R0.id, .slice ga R0.cells.length gc] 35) ∧ Own W' (dAtomSS R0.cells) (fun c => ug ≤ c ∧ c < wg.heap.size) (.slice ga R0.cells.length gc))) := fun W W' h hB => ⟨h.1.trans (hB.mono h.1.size), heap_keptD h.2.1 hB, heap_keptD h.2.2.1 hB, heap_keptD h.2.2.2.1 hB, h.2.2.2.2.1.later hB, heap_keptD h.2.2.2.2.2.1 hB, h.2.2.2.2.2.2.1.later hB, h.2.2.2.2.2.2.2.1.later hB, heap_keptD h.2.2.2.2.2.2.2.2.1 hB, h.2.2.2.2.2.2.2.2.2.1.later hB, h.2.2.2.2.2.2.2.2.2.2.1.later hB, heap_keptD h.2.2.2.2.2.2.2.2.2.2.2.1 hB, h.2.2.2.2.2.2.2.2.2.2.2.2.later hB⟩
  obtain ⟨k2, hk2⟩ : ∃ y : Nat, y = k1 + (dMutS x2).wd := ⟨_, rfl⟩
  rw [← hk2]
  have hkb2 : Hid (k2 < 3000000000 ∧ 0 < k2) := by rw [hk2]; have gk := hkb1.out; have g := D.wd_le (dMutS x2) (HO2.out); have gz := HZ2.out; show _ ∧ _; omega
  have dk2 : decide ((k2 : Int) < 0) = false := by simp
  clear hk2
  have f_arg0_0 := cell_at (o := 0) N7.out.2.1 rfl
  have f_arg0_1 := cell_at (o := 1) N7.out.2.1 rfl
  have f_arg0_2 := cell_at (o := 2) N7.out.2.1 rfl
  have f_arg0_3 := cell_at (o := 3) N7.out.2.1 rfl
  have f_arg1_0 := cell_at (o := 0) N7.out.2.2.1 rfl
  have f_arg1_1 := cell_at (o := 1) N7.out.2.2.1 rfl
  have f_w0_0 := cell_at (o := 0) N7.out.2.2.2.1 rfl
  have f_w0_1 := cell_at (o := 1) N7.out.2.2.2.1 rfl
  have f_x0_0 := cell_at (o := 0) N7.out.2.2.2.2.2.1 rfl
  have f_x0_1 := cell_at (o := 1) N7.out.2.2.2.2.2.1 rfl
  have f_x0_2 := cell_at (o := 2) N7.out.2.2.2.2.2.1 rfl
  have f_x0_3 := cell_at (o := 3) N7.out.2.2.2.2.2.1 rfl
  have f_x1_0 := cell_at (o := 0) N7.out.2.2.2.2.2.2.2.2.1 rfl
  have f_x1_1 := cell_at (o := 1) N7.out.2.2.2.2.2.2.2.2.1 rfl
  have f_g_0 := cell_at (o := 0) N7.out.2.2.2.2.2.2.2.2.2.2.2.1 rfl
  have f_g_1 := cell_at (o := 1) N7.out.2.2.2.2.2.2.2.2.2.2.2.1 rfl
  go_wp2_with fail
  refine (EQR.out _ _ _ _ _ (Rd.any (Own.rd' (N7.out.2.2.2.2.2.2.2.2.2.2.2.2))) (Rd.any (N7.out.2.2.2.2.1))).mono ?_
  rintro e wc7 ⟨rfl, hB⟩
  have N8 := Lib.hid (T2L.out _ _ N7.out hB)
  clear f_arg0_0 f_arg0_1 f_arg0_2 f_arg0_3 f_arg1_0 f_arg1_1 f_w0_0 f_w0_1 f_x0_0 f_x0_1 f_x0_2 f_x0_3 f_x1_0 f_x1_1 f_g_0 f_g_1
  clear hB N7
  have f_arg0_0 := cell_at (o := 0) N8.out.2.1 rfl
  have f_arg0_1 := cell_at (o := 1) N8.out.2.1 rfl
  have f_arg0_2 := cell_at (o := 2) N8.out.2.1 rfl
  have f_arg0_3 := cell_at (o := 3) N8.out.2.1 rfl
  have f_arg1_0 := cell_at (o := 0) N8.out.2.2.1 rfl
  have f_arg1_1 := cell_at (o := 1) N8.out.2.2.1 rfl
  have f_w0_0 := cell_at (o := 0) N8.out.2.2.2.1 rfl
  have f_w0_1 := cell_at (o := 1) N8.out.2.2.2.1 rfl
  have f_x0_0 := cell_at (o := 0) N8.out.2.2.2.2.2.1 rfl
  have f_x0_1 := cell_at (o := 1) N8.out.2.2.2.2.2.1 rfl
  have f_x0_2 := cell_at (o := 2) N8.out.2.2.2.2.2.1 rfl
  have f_x0_3 := cell_at (o := 3) N8.out.2.2.2.2.2.1 rfl
  have f_x1_0 := cell_at (o := 0) N8.out.2.2.2.2.2.2.2.2.1 rfl
  have f_x1_1 := cell_at (o := 1) N8.out.2.2.2.2.2.2.2.2.1 rfl
  have f_g_0 := cell_at (o := 0) N8.out.2.2.2.2.2.2.2.2.2.2.2.1 rfl
  have f_g_1 := cell_at (o := 1) N8.out.2.2.2.2.2.2.2.2.2.2.2.1 rfl
  go_wp2_with fail
  have TGF : Hid (∀ W W', (Below w.heap.size w W ∧ W.heap[w.heap.size]? = some (.cells #[.string ⟨x0.nm.toArray⟩, .slice a0_1 x0.cols.length c0_1, .slice a0_2 x0.uq.length c0_2, .bool x0.rt] 25) ∧ W.heap[w.heap.size + 1]? = some (.cells #[.int .i64 x1.id, .slice a1_1 x1.cells.length c1_1] 28) ∧ W.heap[b0]? = some (.cells #[.int .i64 R0.id, .slice ra R0.cells.length rc] 35) ∧ Rd W (· < wc.heap.size) (dAtomSS R0.cells) (.slice ra R0.cells.length rc) ∧ W.heap[wx0.heap.size]? = some (.cells #[.string ⟨x0.nm.toArray⟩, .slice (some ⟨p0_1, 0, none⟩) x0.cols.length x0.cols.length, .slice (some ⟨p0_2, 0, none⟩) x0.uq.length x0.uq.length, .bool x0.rt] 40) ∧ Own W ((dColumnS x0.cols).mkd (1)) (Y0 1) (.slice (some ⟨p0_1, 0, none⟩) x0.cols.length x0.cols.length) ∧ Own W ((dIntS x0.uq).mkd (1 + (dColumnS x0.cols).wd)) (Y0 2) (.slice (some ⟨p0_2, 0, none⟩) x0.uq.length x0.uq.length) ∧ W.heap[wx1.heap.size]? = some (.cells #[.int .i64 x1.id, .slice (some ⟨p1_1, 0, none⟩) x1.cells.length x1.cells.length] 35) ∧ Own W ((dAtomSS x1.cells).mkd (k0)) (fun c => u1 ≤ c ∧ c < wx1.heap.size) (.slice (some ⟨p1_1, 0, none⟩) x1.cells.length x1.cells.length) ∧ Own W ((dMutS x2).mkd (k1)) (fun c => u2 ≤ c ∧ c < wx2.heap.size) (.slice (some ⟨p2_, 0, none⟩) x2.length x2.length) ∧ W.heap[wg.heap.size]? = some (.cells #[.int .i64 R0.id, .slice ga R0.cells.length gc] 35) ∧ Own W (dAtomSS R0.cells) (fun c => ug ≤ c ∧ c < wg.heap.size) (.slice ga R0.cells.length gc)) → Frm (fun c => ug ≤ c ∧ c < wg.heap.size) W W' → (Own W' ((dAtomSS R0.cells).mkd 1) (fun c => ug ≤ c ∧ c < wg.heap.size) (.slice ga R0.cells.length gc)) → (Below w.heap.size w W' ∧ W'.heap[w.heap.size]? = some (.cells #[.string ⟨x0.nm.toArray⟩, .slice a0_1 x0.cols.length c0_1, .slice a0_2 x0.uq.length c0_2, .bool x0.rt] 25) ∧ W'.heap[w.heap.size + 1]? = some (.cells #[.int .i64 x1.id, .slice a1_1 x1.cells.length c1_1] 28) ∧ W'.heap[b0]? = some (.cells #[.int .i64 R0.id, .slice ra R0.cells.length rc] 35) ∧ Rd W' (· < wc.heap.size) (dAtomSS R0.cells) (.slice ra R0.cells.length rc) ∧ W'.heap[wx0.heap.size]? = some (.cells #[.string ⟨x0.nm.toArray⟩, .slice (some ⟨p0_1, 0, none⟩) x0.cols.length x0.cols.length, .slice (some ⟨p0_2, 0, none⟩) x0.uq.length x0.uq.length, .bool x0.rt] 40) ∧ Own W' ((dColumnS x0.cols).mkd (1)) (Y0 1) (.slice (some ⟨p0_1, 0, none⟩) x0.cols.length x0.cols.length) ∧ Own W' ((dIntS x0.uq).mkd (1 + (dColumnS x0.cols).wd)) (Y0 2) (.slice (some ⟨p0_2, 0, none⟩) x0.uq.length x0.uq.length) ∧ W'.heap[wx1.heap.size]? = some (.cells #[.int .i64 x1.id, .slice (some ⟨p1_1, 0, none⟩) x1.cells.length x1.cells.length] 35) ∧ Own W' ((dAtomSS x1.cells).mkd (k0)) (fun c => u1 ≤ c ∧ c < wx1.heap.size) (.slice (some ⟨p1_1, 0, none⟩) x1.cells.length x1.cells.length) ∧ Own W' ((dMutS x2).mkd (k1)) (fun c => u2 ≤ c ∧ c < wx2.heap.size) (.slice (some ⟨p2_, 0, none⟩) x2.length x2.length) ∧ W'.heap[wg.heap.size]? = some (.cells #[.int .i64 R0.id, .slice ga R0.cells.length gc] 35) ∧ Own W' ((dAtomSS R0.cells).mkd 1) (fun c => ug ≤ c ∧ c < wg.heap.size) (.slice ga R0.cells.length gc))) := fun W W' h hF ho0 => ⟨h.1.trans (Frm.below hF h.1.size (fun b hb hx => by have h1 := (fun (b : Nat) (hb : ug ≤ b ∧ b < wg.heap.size) => hb) b hx; have h2 := ORD.out; omega)), (hF.block _ (Array.getElem?_eq_some_iff.1 h.2.1).1 (fun hx => by have h1 := (fun (b : Nat) (hb : ug ≤ b ∧ b < wg.heap.size) => hb) _ hx; have h2 := ORD.out; omega)).trans h.2.1, (hF.block _ (Array.getElem?_eq_some_iff.1 h.2.2.1).1 (fun hx => by have h1 := (fun (b : Nat) (hb : ug ≤ b ∧ b < wg.heap.size) => hb) _ hx; have h2 := ORD.out; omega)).trans h.2.2.1, (hF.block _ (Array.getElem?_eq_some_iff.1 h.2.2.2.1).1 (fun hx => by have h1 := (fun (b : Nat) (hb : ug ≤ b ∧ b < wg.heap.size) => hb) _ hx; have h2 := ORD.out; omega)).trans h.2.2.2.1, h.2.2.2.2.1.frm hF (fun b hb hx => by have h1 := (fun (b : Nat) (hb : ug ≤ b ∧ b < wg.heap.size) => hb) b hx; have h2 := ORD.out; have h3 : b < wc.heap.size := hb; omega), (hF.block _ (Array.getElem?_eq_some_iff.1 h.2.2.2.2.2.1).1 (fun hx => by have h1 := (fun (b : Nat) (hb : ug ≤ b ∧ b < wg.heap.size) => hb) _ hx; have h2 := ORD.out; omega)).trans h.2.2.2.2.2.1, h.2.2.2.2.2.2.1.frm hF (fun b hb hx => by have h1 := (fun (b : Nat) (hb : ug ≤ b ∧ b < wg.heap.size) => hb) b hx; have h2 := ORD.out; have h3 := (fun b hb => YS0.out 1 b hb) b hb; omega), h.2.2.2.2.2.2.2.1.frm hF (fun b hb hx => by have h1 := (fun (b : Nat) (hb : ug ≤ b ∧ b < wg.heap.size) => hb) b hx; have h2 := ORD.out; have h3 := (fun b hb => YS0.out 2 b hb) b hb; omega), (hF.block _ (Array.getElem?_eq_some_iff.1 h.2.2.2.2.2.2.2.2.1).1 (fun hx => by have h1 := (fun (b : Nat) (hb : ug ≤ b ∧ b < wg.heap.size) => hb) _ hx; have h2 := ORD.out; omega)).trans h.2.2.2.2.2.2.2.2.1, h.2.2.2.2.2.2.2.2.2.1.frm hF (fun b hb hx => by have h1 := (fun (b : Nat) (hb : ug ≤ b ∧ b < wg.heap.size) => hb) b hx; have h2 := ORD.out; have h3 := (fun (b : Nat) (hb : u1 ≤ b ∧ b < wx1.heap.size) => hb) b hb; omega), h.2.2.2.2.2.2.2.2.2.2.1.frm hF (fun b hb hx => by have h1 := (fun (b : Nat) (hb : ug ≤ b ∧ b < wg.heap.size) => hb) b hx; have h2 := ORD.out; have h3 := (fun (b : Nat) (hb : u2 ≤ b ∧ b < wx2.heap.size) => hb) b hb; omega), (hF.block _ (Array.getElem?_eq_some_iff.1 h.2.2.2.2.2.2.2.2.2.2.2.1).1 (fun hx => by have h1 := (fun (b : Nat) (hb : ug ≤ b ∧ b < wg.heap.size) => hb) _ hx; have h2 := ORD.out; omega)).trans h.2.2.2.2.2.2.2.2.2.2.2.1, ho0⟩
  refine (mkDRow R0 ga gc 1 (fun c => ug ≤ c ∧ c < wg.heap.size) _ (HRB.out.1 1 (by omega)) (by omega) HRW.out (N8.out.2.2.2.2.2.2.2.2.2.2.2.2)).mono ?_
  rintro e wmg ⟨rfl, ho, hF⟩
  have N9 := Lib.hid (TGF.out _ _ N8.out hF ho)
  clear f_arg0_0 f_arg0_1 f_arg0_2 f_arg0_3 f_arg1_0 f_arg1_1 f_w0_0 f_w0_1 f_x0_0 f_x0_1 f_x0_2 f_x0_3 f_x1_0 f_x1_1 f_g_0 f_g_1
  clear ho hF N8
  have TGL : Hid (∀ W W', (Below w.heap.size w W ∧ W.heap[w.heap.size]? = some (.cells #[.string ⟨x0.nm.toArray⟩, .slice a0_1 x0.cols.length c0_1, .slice a0_2 x0.uq.length c0_2, .bool x0.rt] 25) ∧ W.heap[w.heap.size + 1]? = some (.cells #[.int .i64 x1.id, .slice a1_1 x1.cells.length c1_1] 28) ∧ W.heap[b0]? = some (.cells #[.int .i64 R0.id, .slice ra R0.cells.length rc] 35) ∧ Rd W (· < wc.heap.size) (dAtomSS R0.cells) (.slice ra R0.cells.length rc) ∧ W.heap[wx0.heap.size]? = some (.cells #[.string ⟨x0.nm.toArray⟩, .slice (some ⟨p0_1, 0, none⟩) x0.cols.length x0.cols.length, .slice (some ⟨p0_2, 0, none⟩) x0.uq.length x0.uq.length, .bool x0.rt] 40) ∧ Own W ((dColumnS x0.cols).mkd (1)) (Y0 1) (.slice (some ⟨p0_1, 0, none⟩) x0.cols.length x0.cols.length) ∧ Own W ((dIntS x0.uq).mkd (1 + (dColumnS x0.cols).wd)) (Y0 2) (.slice (some ⟨p0_2, 0, none⟩) x0.uq.length x0.uq.length) ∧ W.heap[wx1.heap.size]? = some (.cells #[.int .i64 x1.id, .slice (some ⟨p1_1, 0, none⟩) x1.cells.length x1.cells.length] 35) ∧ Own W ((dAtomSS x1.cells).mkd (k0)) (fun c => u1 ≤ c ∧ c < wx1.heap.size) (.slice (some ⟨p1_1, 0, none⟩) x1.cells.length x1.cells.length) ∧ Own W ((dMutS x2).mkd (k1)) (fun c => u2 ≤ c ∧ c < wx2.heap.size) (.slice (some ⟨p2_, 0, none⟩) x2.length x2.length) ∧ W.heap[wg.heap.size]? = some (.cells #[.int .i64 R0.id, .slice ga R0.cells.length gc] 35) ∧ Own W ((dAtomSS R0.cells).mkd 1) (fun c => ug ≤ c ∧ c < wg.heap.size) (.slice ga R0.cells.length gc)) → Below W.heap.size W W' → (Below w.heap.size w W' ∧ W'.heap[w.heap.size]? = some (.cells #[.string ⟨x0.nm.toArray⟩, .slice a0_1 x0.cols.length c0_1, .slice a0_2 x0.uq.length c0_2, .bool x0.rt] 25) ∧ W'.heap[w.heap.size + 1]? = some (.cells #[.int .i64 x1.id, .slice a1_1 x1.cells.length c1_1] 28) ∧ W'.heap[b0]? = some (.cells #[.int .i64 R0.id, .slice ra R0.cells.length rc] 35) ∧ Rd W' (· < wc.heap.size) (dAtomSS R0.cells) (.slice ra R0.cells.length rc) ∧ W'.heap[wx0.heap.size]? = some (.cells #[.string ⟨x0.nm.toArray⟩, .slice (some ⟨p0_1, 0, none⟩) x0.cols.length x0.cols.length, .slice (some ⟨p0_2, 0, none⟩) x0.uq.length x0.uq.length, .bool x0.rt] 40) ∧ Own W' ((dColumnS x0.cols).mkd (1)) (Y0 1) (.slice (some ⟨p0_1, 0, none⟩) x0.cols.length x0.cols.length) ∧ Own W' ((dIntS x0.uq).mkd (1 + (dColumnS x0.cols).wd)) (Y0 2) (.slice (some ⟨p0_2, 0, none⟩) x0.uq.length x0.uq.length) ∧ W'.heap[wx1.heap.size]? = some (.cells #[.int .i64 x1.id, .slice (some ⟨p1_1, 0, none⟩) x1.cells.length x1.cells.length] 35) ∧ Own W' ((dAtomSS x1.cells).mkd (k0)) (fun c => u1 ≤ c ∧ c < wx1.heap.size) (.slice (some ⟨p1_1, 0, none⟩) x1.cells.length x1.cells.length) ∧ Own W' ((dMutS x2).mkd (k1)) (fun c => u2 ≤ c ∧ c < wx2.heap.size) (.slice (some ⟨p2_, 0, none⟩) x2.length x2.length) ∧ W'.heap[wg.heap.size]? = some (.cells #[.int .i64 R0.id, .slice ga R0.cells.length gc] 35) ∧ Own W' ((dAtomSS R0.cells).mkd 1) (fun c => ug ≤ c ∧ c < wg.heap.size) (.slice ga R0.cells.length gc))) := fun W W' h hB => ⟨h.1.trans (hB.mono h.1.size), heap_keptD h.2.1 hB, heap_keptD h.2.2.1 hB, heap_keptD h.2.2.2.1 hB, h.2.2.2.2.1.later hB, heap_keptD h.2.2.2.2.2.1 hB, h.2.2.2.2.2.2.1.later hB, h.2.2.2.2.2.2.2.1.later hB, heap_keptD h.2.2.2.2.2.2.2.2.1 hB, h.2.2.2.2.2.2.2.2.2.1.later hB, h.2.2.2.2.2.2.2.2.2.2.1.later hB, heap_keptD h.2.2.2.2.2.2.2.2.2.2.2.1 hB, h.2.2.2.2.2.2.2.2.2.2.2.2.later hB⟩
  have HD : Hid (∀ (W : World), Rd W (fun _ => True) ((dAtomSS R0.cells).mkd 1) (.slice ga R0.cells.length gc) → Calls Tryz.prog 18 #[.agg #[.int .i64 R0.id, .slice ga R0.cells.length gc], .int .i64 1] W fun e w' => e = .returned (.int .i64 (1 + (dAtomSS R0.cells).wd : Nat)) ∧ Below W.heap.size W w') := fun W h => hdDRow R0 ga gc 1 _ W (HRB.out.1 1 (by omega)) (by omega) HRW.out h
  obtain ⟨kg, hkg⟩ : ∃ y : Nat, y = 1 + (dAtomSS R0.cells).wd := ⟨_, rfl⟩
  rw [← hkg] at HD ⊢
  have dkg : decide ((kg : Int) < 0) = false := by simp
  have nkg : ((kg : Int) != (kg : Int)) = false := by simp
  clear hkg
  have f_arg0_0 := cell_at (o := 0) N9.out.2.1 rfl
  have f_arg0_1 := cell_at (o := 1) N9.out.2.1 rfl
  have f_arg0_2 := cell_at (o := 2) N9.out.2.1 rfl
  have f_arg0_3 := cell_at (o := 3) N9.out.2.1 rfl
  have f_arg1_0 := cell_at (o := 0) N9.out.2.2.1 rfl
  have f_arg1_1 := cell_at (o := 1) N9.out.2.2.1 rfl
  have f_w0_0 := cell_at (o := 0) N9.out.2.2.2.1 rfl
  have f_w0_1 := cell_at (o := 1) N9.out.2.2.2.1 rfl
  have f_x0_0 := cell_at (o := 0) N9.out.2.2.2.2.2.1 rfl
  have f_x0_1 := cell_at (o := 1) N9.out.2.2.2.2.2.1 rfl
  have f_x0_2 := cell_at (o := 2) N9.out.2.2.2.2.2.1 rfl
  have f_x0_3 := cell_at (o := 3) N9.out.2.2.2.2.2.1 rfl
  have f_x1_0 := cell_at (o := 0) N9.out.2.2.2.2.2.2.2.2.1 rfl
  have f_x1_1 := cell_at (o := 1) N9.out.2.2.2.2.2.2.2.2.1 rfl
  have f_g_0 := cell_at (o := 0) N9.out.2.2.2.2.2.2.2.2.2.2.2.1 rfl
  have f_g_1 := cell_at (o := 1) N9.out.2.2.2.2.2.2.2.2.2.2.2.1 rfl
  go_wp2_with fail
  refine (HD.out _ (Rd.any (Own.rd' (N9.out.2.2.2.2.2.2.2.2.2.2.2.2)))).mono ?_
  rintro e wh9 ⟨rfl, hB⟩
  have N10 := Lib.hid (TGL.out _ _ N9.out hB)
  clear f_arg0_0 f_arg0_1 f_arg0_2 f_arg0_3 f_arg1_0 f_arg1_1 f_w0_0 f_w0_1 f_x0_0 f_x0_1 f_x0_2 f_x0_3 f_x1_0 f_x1_1 f_g_0 f_g_1
  clear hB N9
  have f_arg0_0 := cell_at (o := 0) N10.out.2.1 rfl
  have f_arg0_1 := cell_at (o := 1) N10.out.2.1 rfl
  have f_arg0_2 := cell_at (o := 2) N10.out.2.1 rfl
  have f_arg0_3 := cell_at (o := 3) N10.out.2.1 rfl
  have f_arg1_0 := cell_at (o := 0) N10.out.2.2.1 rfl
  have f_arg1_1 := cell_at (o := 1) N10.out.2.2.1 rfl
  have f_w0_0 := cell_at (o := 0) N10.out.2.2.2.1 rfl
  have f_w0_1 := cell_at (o := 1) N10.out.2.2.2.1 rfl
  have f_x0_0 := cell_at (o := 0) N10.out.2.2.2.2.2.1 rfl
  have f_x0_1 := cell_at (o := 1) N10.out.2.2.2.2.2.1 rfl
  have f_x0_2 := cell_at (o := 2) N10.out.2.2.2.2.2.1 rfl
  have f_x0_3 := cell_at (o := 3) N10.out.2.2.2.2.2.1 rfl
  have f_x1_0 := cell_at (o := 0) N10.out.2.2.2.2.2.2.2.2.1 rfl
  have f_x1_1 := cell_at (o := 1) N10.out.2.2.2.2.2.2.2.2.1 rfl
  have f_g_0 := cell_at (o := 0) N10.out.2.2.2.2.2.2.2.2.2.2.2.1 rfl
  have f_g_1 := cell_at (o := 1) N10.out.2.2.2.2.2.2.2.2.2.2.2.1 rfl
  go_upto_region 38 with fail
  have HST : Hid (∀ W, Below wh9.heap.size wh9 W → (Below w.heap.size w W ∧ W.heap[w.heap.size]? = some (.cells #[.string ⟨x0.nm.toArray⟩, .slice a0_1 x0.cols.length c0_1, .slice a0_2 x0.uq.length c0_2, .bool x0.rt] 25) ∧ W.heap[w.heap.size + 1]? = some (.cells #[.int .i64 x1.id, .slice a1_1 x1.cells.length c1_1] 28) ∧ W.heap[b0]? = some (.cells #[.int .i64 R0.id, .slice ra R0.cells.length rc] 35) ∧ Rd W (· < wc.heap.size) (dAtomSS R0.cells) (.slice ra R0.cells.length rc) ∧ W.heap[wx0.heap.size]? = some (.cells #[.string ⟨x0.nm.toArray⟩, .slice (some ⟨p0_1, 0, none⟩) x0.cols.length x0.cols.length, .slice (some ⟨p0_2, 0, none⟩) x0.uq.length x0.uq.length, .bool x0.rt] 40) ∧ Own W ((dColumnS x0.cols).mkd (1)) (Y0 1) (.slice (some ⟨p0_1, 0, none⟩) x0.cols.length x0.cols.length) ∧ Own W ((dIntS x0.uq).mkd (1 + (dColumnS x0.cols).wd)) (Y0 2) (.slice (some ⟨p0_2, 0, none⟩) x0.uq.length x0.uq.length) ∧ W.heap[wx1.heap.size]? = some (.cells #[.int .i64 x1.id, .slice (some ⟨p1_1, 0, none⟩) x1.cells.length x1.cells.length] 35) ∧ Own W ((dAtomSS x1.cells).mkd (k0)) (fun c => u1 ≤ c ∧ c < wx1.heap.size) (.slice (some ⟨p1_1, 0, none⟩) x1.cells.length x1.cells.length) ∧ Own W ((dMutS x2).mkd (k1)) (fun c => u2 ≤ c ∧ c < wx2.heap.size) (.slice (some ⟨p2_, 0, none⟩) x2.length x2.length) ∧ W.heap[wg.heap.size]? = some (.cells #[.int .i64 R0.id, .slice ga R0.cells.length gc] 35) ∧ Own W ((dAtomSS R0.cells).mkd 1) (fun c => ug ≤ c ∧ c < wg.heap.size) (.slice ga R0.cells.length gc))) := fun W h => TGL.out _ _ N10.out h
  have CE : Hid (∀ W, (Below w.heap.size w W ∧ W.heap[w.heap.size]? = some (.cells #[.string ⟨x0.nm.toArray⟩, .slice a0_1 x0.cols.length c0_1, .slice a0_2 x0.uq.length c0_2, .bool x0.rt] 25) ∧ W.heap[w.heap.size + 1]? = some (.cells #[.int .i64 x1.id, .slice a1_1 x1.cells.length c1_1] 28) ∧ W.heap[b0]? = some (.cells #[.int .i64 R0.id, .slice ra R0.cells.length rc] 35) ∧ Rd W (· < wc.heap.size) (dAtomSS R0.cells) (.slice ra R0.cells.length rc) ∧ W.heap[wx0.heap.size]? = some (.cells #[.string ⟨x0.nm.toArray⟩, .slice (some ⟨p0_1, 0, none⟩) x0.cols.length x0.cols.length, .slice (some ⟨p0_2, 0, none⟩) x0.uq.length x0.uq.length, .bool x0.rt] 40) ∧ Own W ((dColumnS x0.cols).mkd (1)) (Y0 1) (.slice (some ⟨p0_1, 0, none⟩) x0.cols.length x0.cols.length) ∧ Own W ((dIntS x0.uq).mkd (1 + (dColumnS x0.cols).wd)) (Y0 2) (.slice (some ⟨p0_2, 0, none⟩) x0.uq.length x0.uq.length) ∧ W.heap[wx1.heap.size]? = some (.cells #[.int .i64 x1.id, .slice (some ⟨p1_1, 0, none⟩) x1.cells.length x1.cells.length] 35) ∧ Own W ((dAtomSS x1.cells).mkd (k0)) (fun c => u1 ≤ c ∧ c < wx1.heap.size) (.slice (some ⟨p1_1, 0, none⟩) x1.cells.length x1.cells.length) ∧ Own W ((dMutS x2).mkd (k1)) (fun c => u2 ≤ c ∧ c < wx2.heap.size) (.slice (some ⟨p2_, 0, none⟩) x2.length x2.length) ∧ W.heap[wg.heap.size]? = some (.cells #[.int .i64 R0.id, .slice ga R0.cells.length gc] 35) ∧ Own W ((dAtomSS R0.cells).mkd 1) (fun c => ug ≤ c ∧ c < wg.heap.size) (.slice ga R0.cells.length gc)) → (W.cell? ⟨w.heap.size, 0, none⟩ = some (.string ⟨x0.nm.toArray⟩) ∧ W.cell? ⟨w.heap.size, 1, none⟩ = some (.slice a0_1 x0.cols.length c0_1) ∧ W.cell? ⟨w.heap.size, 2, none⟩ = some (.slice a0_2 x0.uq.length c0_2) ∧ W.cell? ⟨w.heap.size, 3, none⟩ = some (.bool x0.rt) ∧ W.cell? ⟨w.heap.size + 1, 0, none⟩ = some (.int .i64 x1.id) ∧ W.cell? ⟨w.heap.size + 1, 1, none⟩ = some (.slice a1_1 x1.cells.length c1_1))) := fun W h => ⟨cell_at (o := 0) h.2.1 rfl, cell_at (o := 1) h.2.1 rfl, cell_at (o := 2) h.2.1 rfl, cell_at (o := 3) h.2.1 rfl, cell_at (o := 0) h.2.2.1 rfl, cell_at (o := 1) h.2.2.1 rfl⟩
  have HSX : Hid (∀ W, (Below w.heap.size w W ∧ W.heap[w.heap.size]? = some (.cells #[.string ⟨x0.nm.toArray⟩, .slice a0_1 x0.cols.length c0_1, .slice a0_2 x0.uq.length c0_2, .bool x0.rt] 25) ∧ W.heap[w.heap.size + 1]? = some (.cells #[.int .i64 x1.id, .slice a1_1 x1.cells.length c1_1] 28) ∧ W.heap[b0]? = some (.cells #[.int .i64 R0.id, .slice ra R0.cells.length rc] 35) ∧ Rd W (· < wc.heap.size) (dAtomSS R0.cells) (.slice ra R0.cells.length rc) ∧ W.heap[wx0.heap.size]? = some (.cells #[.string ⟨x0.nm.toArray⟩, .slice (some ⟨p0_1, 0, none⟩) x0.cols.length x0.cols.length, .slice (some ⟨p0_2, 0, none⟩) x0.uq.length x0.uq.length, .bool x0.rt] 40) ∧ Own W ((dColumnS x0.cols).mkd (1)) (Y0 1) (.slice (some ⟨p0_1, 0, none⟩) x0.cols.length x0.cols.length) ∧ Own W ((dIntS x0.uq).mkd (1 + (dColumnS x0.cols).wd)) (Y0 2) (.slice (some ⟨p0_2, 0, none⟩) x0.uq.length x0.uq.length) ∧ W.heap[wx1.heap.size]? = some (.cells #[.int .i64 x1.id, .slice (some ⟨p1_1, 0, none⟩) x1.cells.length x1.cells.length] 35) ∧ Own W ((dAtomSS x1.cells).mkd (k0)) (fun c => u1 ≤ c ∧ c < wx1.heap.size) (.slice (some ⟨p1_1, 0, none⟩) x1.cells.length x1.cells.length) ∧ Own W ((dMutS x2).mkd (k1)) (fun c => u2 ≤ c ∧ c < wx2.heap.size) (.slice (some ⟨p2_, 0, none⟩) x2.length x2.length) ∧ W.heap[wg.heap.size]? = some (.cells #[.int .i64 R0.id, .slice ga R0.cells.length gc] 35) ∧ Own W ((dAtomSS R0.cells).mkd 1) (fun c => ug ≤ c ∧ c < wg.heap.size) (.slice ga R0.cells.length gc)) → (Below w.heap.size w W ∧ W.heap[w.heap.size]? = some (.cells #[.string ⟨x0.nm.toArray⟩, .slice a0_1 x0.cols.length c0_1, .slice a0_2 x0.uq.length c0_2, .bool x0.rt] 25) ∧ W.heap[w.heap.size + 1]? = some (.cells #[.int .i64 x1.id, .slice a1_1 x1.cells.length c1_1] 28))) := fun W h => ⟨h.1, h.2.1, h.2.2.1⟩
  clear N10 f_arg0_0 f_arg0_1 f_arg0_2 f_arg0_3 f_arg1_0 f_arg1_1 f_w0_0 f_w0_1 f_x0_0 f_x0_1 f_x0_2 f_x0_3 f_x1_0 f_x1_1 f_g_0 f_g_1
  go_cut [18, 19] from 115 to 124 (fun s0 s1 wx => ∃ (ya : Option Addr) (yc b1 : Nat), s0 = .pointer (some ⟨b1, 0, none⟩) ∧ s1 = .int .i64 R1 ∧ Hid ((Below w.heap.size w wx ∧ wx.heap[w.heap.size]? = some (.cells #[.string ⟨x0.nm.toArray⟩, .slice a0_1 x0.cols.length c0_1, .slice a0_2 x0.uq.length c0_2, .bool x0.rt] 25) ∧ wx.heap[w.heap.size + 1]? = some (.cells #[.int .i64 x1.id, .slice a1_1 x1.cells.length c1_1] 28) ∧ wx.heap[b0]? = some (.cells #[.int .i64 R0.id, .slice ra R0.cells.length rc] 35) ∧ Rd wx (· < wc.heap.size) (dAtomSS R0.cells) (.slice ra R0.cells.length rc) ∧ wx.heap[wx0.heap.size]? = some (.cells #[.string ⟨x0.nm.toArray⟩, .slice (some ⟨p0_1, 0, none⟩) x0.cols.length x0.cols.length, .slice (some ⟨p0_2, 0, none⟩) x0.uq.length x0.uq.length, .bool x0.rt] 40) ∧ Own wx ((dColumnS x0.cols).mkd (1)) (Y0 1) (.slice (some ⟨p0_1, 0, none⟩) x0.cols.length x0.cols.length) ∧ Own wx ((dIntS x0.uq).mkd (1 + (dColumnS x0.cols).wd)) (Y0 2) (.slice (some ⟨p0_2, 0, none⟩) x0.uq.length x0.uq.length) ∧ wx.heap[wx1.heap.size]? = some (.cells #[.int .i64 x1.id, .slice (some ⟨p1_1, 0, none⟩) x1.cells.length x1.cells.length] 35) ∧ Own wx ((dAtomSS x1.cells).mkd (k0)) (fun c => u1 ≤ c ∧ c < wx1.heap.size) (.slice (some ⟨p1_1, 0, none⟩) x1.cells.length x1.cells.length) ∧ Own wx ((dMutS x2).mkd (k1)) (fun c => u2 ≤ c ∧ c < wx2.heap.size) (.slice (some ⟨p2_, 0, none⟩) x2.length x2.length) ∧ wx.heap[wg.heap.size]? = some (.cells #[.int .i64 R0.id, .slice ga R0.cells.length gc] 35) ∧ Own wx ((dAtomSS R0.cells).mkd 1) (fun c => ug ≤ c ∧ c < wg.heap.size) (.slice ga R0.cells.length gc)) ∧ wx.heap[b1]? = some (.cells #[.int .i64 R0.id, .slice ya R0.cells.length yc] 35) ∧ Rd wx (fun _ => True) (dAtomSS R0.cells) (.slice ya R0.cells.length yc)))
  case first =>
    have BS : Hid (Below wh9.heap.size wh9 wh9) := Below.refl _ _
    refine wp_region_held_drew (S := (fun W => W.cell? ⟨w.heap.size, 0, none⟩ = some (.string ⟨x0.nm.toArray⟩) ∧ W.cell? ⟨w.heap.size, 1, none⟩ = some (.slice a0_1 x0.cols.length c0_1) ∧ W.cell? ⟨w.heap.size, 2, none⟩ = some (.slice a0_2 x0.uq.length c0_2) ∧ W.cell? ⟨w.heap.size, 3, none⟩ = some (.bool x0.rt) ∧ W.cell? ⟨w.heap.size + 1, 0, none⟩ = some (.int .i64 x1.id) ∧ W.cell? ⟨w.heap.size + 1, 1, none⟩ = some (.slice a1_1 x1.cells.length c1_1))) (by kernel_rfl) ?_ (fun hHeld => ?_)
    · (first | exact CE.out _ (HST.out _ BS.out) | exact CE.out _ (HST.out _ BS.out.drew))
    refine wpAnyH_take (i := 0) (v := ?_) rfl (by kernel_rfl) (by kernel_rfl) (by kernel_rfl) (fun _ _ _ h => h) (Or.inl ⟨by kernel_rfl, ?_⟩) (by assumption) ?_
    rotate_left
    · (intro wS hSw; (try dsimp only at hSw); go_simp <;> with_reducible rfl)
    try simp only [Act.put, tkS]
    refine wpAnyH_take (i := 2) (v := ?_) rfl (by kernel_rfl) (by kernel_rfl) (by kernel_rfl) (fun _ _ _ h => h) (Or.inl ⟨by kernel_rfl, ?_⟩) (by assumption) ?_
    rotate_left
    · (intro wS hSw; (try dsimp only at hSw); go_simp <;> with_reducible rfl)
    try simp only [Act.put, tkS]
    refine wpAnyH_take (i := 4) (v := ?_) rfl (by kernel_rfl) (by kernel_rfl) (by kernel_rfl) (fun _ _ _ h => h) (Or.inl ⟨by kernel_rfl, ?_⟩) (by assumption) ?_
    rotate_left
    · (intro wS hSw; (try dsimp only at hSw); go_simp <;> with_reducible rfl)
    try simp only [Act.put, tkS]
    refine wpAnyH_ready (rs := [1, 10]) (by kernel_rfl) (by simp) (AllReadyH.cons rfl (fun K hK => ?_) (AllReadyH.cons rfl (fun K hK => ?_) AllReadyH.nil))
    ·
      go_simp
      go_at_call 8
      refine (TO0.out _ (by first | exact HSX.out _ (HST.out _ BS.out) | exact HSX.out _ (HST.out _ BS.out.drew))).mono ?_
      rintro e wt0 ⟨p0_1, p0_2, rfl, ho, hB, -⟩
      have hb : Below wh9.heap.size wh9 wt0 := by first | exact hB | exact (Below.refl _ _).drew.trans hB
      have BS' : Hid (Below wh9.heap.size wh9 wt0) := BS.out.trans (hb.mono BS.out.size)
      clear BS
      have BS := BS'
      clear BS'
      have RC0_1 : Hid (∀ W, Below wt0.heap.size wt0 W → Rd W (fun _ => True) (dColumnS x0.cols) (.slice (some ⟨p0_1, 0, none⟩) x0.cols.length x0.cols.length)) := fun W h => Rd.later ((Owns.one ho (j := 1) (by omega)).rd'.any) h
      have RC0_2 : Hid (∀ W, Below wt0.heap.size wt0 W → Rd W (fun _ => True) (dIntS x0.uq) (.slice (some ⟨p0_2, 0, none⟩) x0.uq.length x0.uq.length)) := fun W h => Rd.later ((Owns.one ho (j := 2) (by omega)).rd'.any) h
      have BC0 : Hid (Below wt0.heap.size wt0 wt0) := Below.refl _ _
      clear hb hB ho
      refine hK.out _ _ ?_ (fun hHeld => ?_)
      · (first | exact CE.out _ (HST.out _ BS.out) | exact CE.out _ (HST.out _ BS.out.drew))
      clear hK K
      try simp only [Act.put, tkS]
      refine wpAnyH_ready (rs := [3, 10]) (by kernel_rfl) (by simp) (AllReadyH.cons rfl (fun K hK => ?_) (AllReadyH.cons rfl (fun K hK => ?_) AllReadyH.nil))
      ·
        go_simp
        go_at_call 9
        refine (TO1.out _ (by first | exact HSX.out _ (HST.out _ BS.out) | exact HSX.out _ (HST.out _ BS.out.drew))).mono ?_
        rintro e wt1 ⟨p1_1, rfl, ho, hB, -⟩
        have hb : Below wt0.heap.size wt0 wt1 := by first | exact hB | exact (Below.refl _ _).drew.trans hB
        have BS' : Hid (Below wh9.heap.size wh9 wt1) := BS.out.trans (hb.mono BS.out.size)
        clear BS
        have BS := BS'
        clear BS'
        have BC0' : Hid (Below wt0.heap.size wt0 wt1) := BC0.out.trans (hb.mono BC0.out.size)
        clear BC0
        have BC0 := BC0'
        clear BC0'
        have RC1_1 : Hid (∀ W, Below wt1.heap.size wt1 W → Rd W (fun _ => True) (dAtomSS x1.cells) (.slice (some ⟨p1_1, 0, none⟩) x1.cells.length x1.cells.length)) := fun W h => Rd.later ((Owns.one ho (j := 1) (by omega)).rd'.any) h
        have BC1 : Hid (Below wt1.heap.size wt1 wt1) := Below.refl _ _
        clear hb hB ho
        refine hK.out _ _ ?_ (fun hHeld => ?_)
        · (first | exact CE.out _ (HST.out _ BS.out) | exact CE.out _ (HST.out _ BS.out.drew))
        clear hK K
        try simp only [Act.put, tkS]
        refine wpAnyH_ready (rs := [5, 10]) (by kernel_rfl) (by simp) (AllReadyH.cons rfl (fun K hK => ?_) (AllReadyH.cons rfl (fun K hK => ?_) AllReadyH.nil))
        ·
          go_simp
          go_at_call 10
          refine (TO2.out _ (by first | exact HSX.out _ (HST.out _ BS.out) | exact HSX.out _ (HST.out _ BS.out.drew))).mono ?_
          rintro e wt2 ⟨p2_, rfl, ho, hB, -⟩
          have hb : Below wt1.heap.size wt1 wt2 := by first | exact hB | exact (Below.refl _ _).drew.trans hB
          have BS' : Hid (Below wh9.heap.size wh9 wt2) := BS.out.trans (hb.mono BS.out.size)
          clear BS
          have BS := BS'
          clear BS'
          have BC0' : Hid (Below wt0.heap.size wt0 wt2) := BC0.out.trans (hb.mono BC0.out.size)
          clear BC0
          have BC0 := BC0'
          clear BC0'
          have BC1' : Hid (Below wt1.heap.size wt1 wt2) := BC1.out.trans (hb.mono BC1.out.size)
          clear BC1
          have BC1 := BC1'
          clear BC1'
          have RC2_ : Hid (∀ W, Below wt2.heap.size wt2 W → Rd W (fun _ => True) (dMutS x2) (.slice (some ⟨p2_, 0, none⟩) x2.length x2.length)) := fun W h => Rd.later (ho.rd'.any) h
          have BC2 : Hid (Below wt2.heap.size wt2 wt2) := Below.refl _ _
          clear hb hB ho
          refine hK.out _ _ ?_ (fun hHeld => ?_)
          · (first | exact CE.out _ (HST.out _ BS.out) | exact CE.out _ (HST.out _ BS.out.drew))
          clear hK K
          try simp only [Act.put, tkS]
          refine wpAnyH_ready (rs := [6, 10]) (by kernel_rfl) (by simp) (AllReadyH.cons rfl (fun K hK => ?_) (AllReadyH.cons rfl (fun K hK => ?_) AllReadyH.nil))
          ·
            go_simp
            go_at_call 11
            refine (CI.out _ _ _ _ _ _ _ _ _ (by first | exact RC0_1.out _ BC0.out | exact RC0_1.out _ BC0.out.drew) (by first | exact RC0_2.out _ BC0.out | exact RC0_2.out _ BC0.out.drew) (by first | exact RC1_1.out _ BC1.out | exact RC1_1.out _ BC1.out.drew) (by first | exact RC2_.out _ BC2.out | exact RC2_.out _ BC2.out.drew)).mono ?_
            rintro e w2 ⟨ya, yc, rfl, hr2, hB⟩
            replace hr2 := Own.rd' hr2
            have hb : Below wt2.heap.size wt2 w2 := by first | exact hB | exact (Below.refl _ _).drew.trans hB
            have BS' : Hid (Below wh9.heap.size wh9 w2) := BS.out.trans (hb.mono BS.out.size)
            clear BS
            have BS := BS'
            clear BS'
            have BC0' : Hid (Below wt0.heap.size wt0 w2) := BC0.out.trans (hb.mono BC0.out.size)
            clear BC0
            have BC0 := BC0'
            clear BC0'
            have BC1' : Hid (Below wt1.heap.size wt1 w2) := BC1.out.trans (hb.mono BC1.out.size)
            clear BC1
            have BC1 := BC1'
            clear BC1'
            have BC2' : Hid (Below wt2.heap.size wt2 w2) := BC2.out.trans (hb.mono BC2.out.size)
            clear BC2
            have BC2 := BC2'
            clear BC2'
            have HR2 : Hid (Rd w2 (fun b => wt2.heap.size ≤ b ∧ b < w2.heap.size) (dAtomSS R0.cells) (.slice ya R0.cells.length yc)) := by first | exact hr2 | (simpa using hr2)
            clear hb hB hr2
            refine hK.out _ _ ?_ (fun hHeld => ?_)
            · (first | exact CE.out _ (HST.out _ BS.out) | exact CE.out _ (HST.out _ BS.out.drew))
            clear hK K
            try simp only [Act.put, tkS]
            refine wpAnyH_take (i := 7) (v := ?_) rfl (by kernel_rfl) (by kernel_rfl) (by kernel_rfl) (fun _ _ _ h => h) (Or.inl ⟨by kernel_rfl, ?_⟩) (by assumption) ?_
            rotate_left
            · (intro wS hSw; (try dsimp only at hSw); go_simp <;> with_reducible rfl)
            try simp only [Act.put, tkS]
            refine wpAnyH_take (i := 8) (v := ?_) rfl (by kernel_rfl) (by kernel_rfl) (by kernel_rfl) (fun _ _ _ h => h) (Or.inl ⟨by kernel_rfl, ?_⟩) (by assumption) ?_
            rotate_left
            · (intro wS hSw; (try dsimp only at hSw); go_simp <;> with_reducible rfl)
            try simp only [Act.put, tkS]
            refine wpAnyH_take (i := 9) (v := ?_) rfl (by kernel_rfl) (by kernel_rfl) (by kernel_rfl) (fun _ _ _ h => h) (Or.inl ⟨by kernel_rfl, ?_⟩) (by assumption) ?_
            rotate_left
            · (intro wS hSw; (try dsimp only at hSw); go_simp <;> with_reducible rfl)
            try simp only [Act.put, tkS]
            refine wpAnyH_ready (rs := [10]) (by kernel_rfl) (by simp) (AllReadyH.cons rfl (fun K hK => ?_) AllReadyH.nil)
            go_simp
            have BSW : Hid (Below wh9.heap.size wh9 w2) := BS.out
            have BS' : Hid (Below wh9.heap.size wh9 (w2.alloc (.cells #[.int .i64 0, .slice none 0 0] 35))) := BS.out.alloc BS.out.size _
            clear BS
            have BS := BS'
            clear BS'
            have BC0' : Hid (Below wt0.heap.size wt0 (w2.alloc (.cells #[.int .i64 0, .slice none 0 0] 35))) := BC0.out.alloc BC0.out.size _
            clear BC0
            have BC0 := BC0'
            clear BC0'
            have BC1' : Hid (Below wt1.heap.size wt1 (w2.alloc (.cells #[.int .i64 0, .slice none 0 0] 35))) := BC1.out.alloc BC1.out.size _
            clear BC1
            have BC1 := BC1'
            clear BC1'
            have BC2' : Hid (Below wt2.heap.size wt2 (w2.alloc (.cells #[.int .i64 0, .slice none 0 0] 35))) := BC2.out.alloc BC2.out.size _
            clear BC2
            have BC2 := BC2'
            clear BC2'
            have HZ : Hid (∀ W, Below (w2.alloc (.cells #[.int .i64 0, .slice none 0 0] 35)).heap.size (w2.alloc (.cells #[.int .i64 0, .slice none 0 0] 35)) W → W.heap[w2.heap.size]? = some (.cells #[.int .i64 0, .slice none 0 0] 35)) := fun W h => heap_keptD (heap_newD _ _) h
            have BA : Hid (Below (w2.alloc (.cells #[.int .i64 0, .slice none 0 0] 35)).heap.size (w2.alloc (.cells #[.int .i64 0, .slice none 0 0] 35)) (w2.alloc (.cells #[.int .i64 0, .slice none 0 0] 35))) := Below.refl _ _
            refine hK.out _ _ ?_ (fun hHeld => ?_)
            · (first | exact CE.out _ (HST.out _ BS.out) | exact CE.out _ (HST.out _ BS.out.drew))
            clear hK K
            try simp only [Act.put, tkS]
            refine wpAnyH_ready (rs := [11]) (by kernel_rfl) (by simp) (AllReadyH.cons rfl (fun K hK => ?_) AllReadyH.nil)
            go_simp
            have hbw2 : Below wh9.heap.size wh9 w2 := BSW.out
            have BT : Hid (Below wh9.heap.size wh9 (w2.alloc (.cells #[.int .i64 R0.id, .slice ya R0.cells.length yc] 35))) := hbw2.alloc hbw2.size _
            clear BS hbw2
            have BS := BT
            clear BT
            refine hK.out _ _ ?_ (fun hHeld => ?_)
            · (first | exact CE.out _ (HST.out _ BS.out) | exact CE.out _ (HST.out _ BS.out.drew))
            clear hK K
            try simp only [Act.put, tkS]
            refine wpAnyH_take (i := 12) (v := ?_) rfl (by kernel_rfl) (by kernel_rfl) (by kernel_rfl) (fun _ _ _ h => h) (Or.inl ⟨by kernel_rfl, ?_⟩) (by assumption) ?_
            rotate_left
            · (intro wS hSw; (try dsimp only at hSw); go_simp <;> with_reducible rfl)
            try simp only [Act.put, tkS]
            refine wpAnyH_done (by kernel_rfl) ?_ _
            have HF := Lib.hid (HST.out _ BS.out)
            go_wp2_with fail
            go_meet
            exact ⟨ya, yc, _, rfl, rfl, HF.out, heap_newD _ _, (HR2.out.later (below_allocD _ _)).mono (fun _ _ => trivial)⟩
          ·
            go_simp
            have LO : Hid (wh9.heap.size ≤ wt2.heap.size) := BS.out.size
            have BS' : Hid (Below wh9.heap.size wh9 (wt2.alloc (.cells #[.int .i64 0, .slice none 0 0] 35))) := BS.out.alloc BS.out.size _
            clear BS
            have BS := BS'
            clear BS'
            have BC0' : Hid (Below wt0.heap.size wt0 (wt2.alloc (.cells #[.int .i64 0, .slice none 0 0] 35))) := BC0.out.alloc BC0.out.size _
            clear BC0
            have BC0 := BC0'
            clear BC0'
            have BC1' : Hid (Below wt1.heap.size wt1 (wt2.alloc (.cells #[.int .i64 0, .slice none 0 0] 35))) := BC1.out.alloc BC1.out.size _
            clear BC1
            have BC1 := BC1'
            clear BC1'
            have BC2' : Hid (Below wt2.heap.size wt2 (wt2.alloc (.cells #[.int .i64 0, .slice none 0 0] 35))) := BC2.out.alloc BC2.out.size _
            clear BC2
            have BC2 := BC2'
            clear BC2'
            have HZ : Hid (∀ W, Below (wt2.alloc (.cells #[.int .i64 0, .slice none 0 0] 35)).heap.size (wt2.alloc (.cells #[.int .i64 0, .slice none 0 0] 35)) W → W.heap[wt2.heap.size]? = some (.cells #[.int .i64 0, .slice none 0 0] 35)) := fun W h => heap_keptD (heap_newD _ _) h
            have BA : Hid (Below (wt2.alloc (.cells #[.int .i64 0, .slice none 0 0] 35)).heap.size (wt2.alloc (.cells #[.int .i64 0, .slice none 0 0] 35)) (wt2.alloc (.cells #[.int .i64 0, .slice none 0 0] 35))) := Below.refl _ _
            refine hK.out _ _ ?_ (fun hHeld => ?_)
            · (first | exact CE.out _ (HST.out _ BS.out) | exact CE.out _ (HST.out _ BS.out.drew))
            clear hK K
            try simp only [Act.put, tkS]
            refine wpAnyH_ready (rs := [6]) (by kernel_rfl) (by simp) (AllReadyH.cons rfl (fun K hK => ?_) AllReadyH.nil)
            go_simp
            have LT0 : Hid (wt2.heap.size < (wt2.alloc (.cells #[.int .i64 0, .slice none 0 0] 35)).heap.size) := (Array.getElem?_eq_some_iff.1 (HZ.out _ BA.out)).1
            go_at_call 11
            refine (CI.out _ _ _ _ _ _ _ _ _ (by first | exact RC0_1.out _ BC0.out | exact RC0_1.out _ BC0.out.drew) (by first | exact RC0_2.out _ BC0.out | exact RC0_2.out _ BC0.out.drew) (by first | exact RC1_1.out _ BC1.out | exact RC1_1.out _ BC1.out.drew) (by first | exact RC2_.out _ BC2.out | exact RC2_.out _ BC2.out.drew)).mono ?_
            rintro e w2 ⟨ya, yc, rfl, hr2, hB⟩
            replace hr2 := Own.rd' hr2
            have hb : Below (wt2.alloc (.cells #[.int .i64 0, .slice none 0 0] 35)).heap.size (wt2.alloc (.cells #[.int .i64 0, .slice none 0 0] 35)) w2 := by first | exact hB | exact (Below.refl _ _).drew.trans hB
            have BS' : Hid (Below wh9.heap.size wh9 w2) := BS.out.trans (hb.mono BS.out.size)
            clear BS
            have BS := BS'
            clear BS'
            have BC0' : Hid (Below wt0.heap.size wt0 w2) := BC0.out.trans (hb.mono BC0.out.size)
            clear BC0
            have BC0 := BC0'
            clear BC0'
            have BC1' : Hid (Below wt1.heap.size wt1 w2) := BC1.out.trans (hb.mono BC1.out.size)
            clear BC1
            have BC1 := BC1'
            clear BC1'
            have BC2' : Hid (Below wt2.heap.size wt2 w2) := BC2.out.trans (hb.mono BC2.out.size)
            clear BC2
            have BC2 := BC2'
            clear BC2'
            have BA' : Hid (Below (wt2.alloc (.cells #[.int .i64 0, .slice none 0 0] 35)).heap.size (wt2.alloc (.cells #[.int .i64 0, .slice none 0 0] 35)) w2) := BA.out.trans (hb.mono BA.out.size)
            clear BA
            have BA := BA'
            clear BA'
            have HR2 : Hid (Rd w2 (fun b => (wt2.alloc (.cells #[.int .i64 0, .slice none 0 0] 35)).heap.size ≤ b ∧ b < w2.heap.size) (dAtomSS R0.cells) (.slice ya R0.cells.length yc)) := by first | exact hr2 | (simpa using hr2)
            clear hb hB hr2
            refine hK.out _ _ ?_ (fun hHeld => ?_)
            · (first | exact CE.out _ (HST.out _ BS.out) | exact CE.out _ (HST.out _ BS.out.drew))
            clear hK K
            try simp only [Act.put, tkS]
            refine wpAnyH_take (i := 7) (v := ?_) rfl (by kernel_rfl) (by kernel_rfl) (by kernel_rfl) (fun _ _ _ h => h) (Or.inl ⟨by kernel_rfl, ?_⟩) (by assumption) ?_
            rotate_left
            · (intro wS hSw; (try dsimp only at hSw); go_simp <;> with_reducible rfl)
            try simp only [Act.put, tkS]
            refine wpAnyH_take (i := 8) (v := ?_) rfl (by kernel_rfl) (by kernel_rfl) (by kernel_rfl) (fun _ _ _ h => h) (Or.inl ⟨by kernel_rfl, ?_⟩) (by assumption) ?_
            rotate_left
            · (intro wS hSw; (try dsimp only at hSw); go_simp <;> with_reducible rfl)
            try simp only [Act.put, tkS]
            refine wpAnyH_take (i := 9) (v := ?_) rfl (by kernel_rfl) (by kernel_rfl) (by kernel_rfl) (fun _ _ _ h => h) (Or.inl ⟨by kernel_rfl, ?_⟩) (by assumption) ?_
            rotate_left
            · (intro wS hSw; (try dsimp only at hSw); go_simp <;> with_reducible rfl)
            try simp only [Act.put, tkS]
            refine wpAnyH_ready (rs := [11]) (by kernel_rfl) (by simp) (AllReadyH.cons rfl (fun K hK => ?_) AllReadyH.nil)
            have zc0 := cell_at (o := 0) (HZ.out _ BA.out) rfl
            have zf0 := frozen_at 0 (HZ.out _ BA.out)
            have zc1 := cell_at (o := 1) (HZ.out _ BA.out) rfl
            have zf1 := frozen_at 1 (HZ.out _ BA.out)
            go_simp
            clear zc0 zf0 zc1 zf1
            have hlo : wh9.heap.size ≤ wt2.heap.size := LO.out
            have BT : Hid (Below wh9.heap.size wh9 ((w2.setCell ⟨wt2.heap.size, 0, none⟩ (.int .i64 R0.id)).setCell ⟨wt2.heap.size, 1, none⟩ (.slice ya R0.cells.length yc))) := ((BS.out.setCell (by first | exact hlo | (show _ ≤ _; exact hlo)) _).setCell (by first | exact hlo | (show _ ≤ _; exact hlo)) _)
            clear BS hlo
            have BS := BT
            clear BT
            refine hK.out _ _ ?_ (fun hHeld => ?_)
            · (first | exact CE.out _ (HST.out _ BS.out) | exact CE.out _ (HST.out _ BS.out.drew))
            clear hK K
            try simp only [Act.put, tkS]
            refine wpAnyH_take (i := 12) (v := ?_) rfl (by kernel_rfl) (by kernel_rfl) (by kernel_rfl) (fun _ _ _ h => h) (Or.inl ⟨by kernel_rfl, ?_⟩) (by assumption) ?_
            rotate_left
            · (intro wS hSw; (try dsimp only at hSw); go_simp <;> with_reducible rfl)
            try simp only [Act.put, tkS]
            refine wpAnyH_done (by kernel_rfl) ?_ _
            have HF := Lib.hid (HST.out _ BS.out)
            go_wp2_with fail
            go_meet
            exact ⟨ya, yc, _, rfl, rfl, HF.out, heap_set 1 _ (heap_set 0 _ (HZ.out _ BA.out)), (HR2.out.frm (F := (· = wt2.heap.size)) ((frm_set _ _ _ _).trans (frm_set _ _ _ _)) (fun b hb e => by have e' : b = wt2.heap.size := e; have h1 := hb.1; have h2 := LT0.out; omega)).mono (fun _ _ => trivial)⟩
        ·
          go_simp
          have LO : Hid (wh9.heap.size ≤ wt1.heap.size) := BS.out.size
          have BS' : Hid (Below wh9.heap.size wh9 (wt1.alloc (.cells #[.int .i64 0, .slice none 0 0] 35))) := BS.out.alloc BS.out.size _
          clear BS
          have BS := BS'
          clear BS'
          have BC0' : Hid (Below wt0.heap.size wt0 (wt1.alloc (.cells #[.int .i64 0, .slice none 0 0] 35))) := BC0.out.alloc BC0.out.size _
          clear BC0
          have BC0 := BC0'
          clear BC0'
          have BC1' : Hid (Below wt1.heap.size wt1 (wt1.alloc (.cells #[.int .i64 0, .slice none 0 0] 35))) := BC1.out.alloc BC1.out.size _
          clear BC1
          have BC1 := BC1'
          clear BC1'
          have HZ : Hid (∀ W, Below (wt1.alloc (.cells #[.int .i64 0, .slice none 0 0] 35)).heap.size (wt1.alloc (.cells #[.int .i64 0, .slice none 0 0] 35)) W → W.heap[wt1.heap.size]? = some (.cells #[.int .i64 0, .slice none 0 0] 35)) := fun W h => heap_keptD (heap_newD _ _) h
          have BA : Hid (Below (wt1.alloc (.cells #[.int .i64 0, .slice none 0 0] 35)).heap.size (wt1.alloc (.cells #[.int .i64 0, .slice none 0 0] 35)) (wt1.alloc (.cells #[.int .i64 0, .slice none 0 0] 35))) := Below.refl _ _
          refine hK.out _ _ ?_ (fun hHeld => ?_)
          · (first | exact CE.out _ (HST.out _ BS.out) | exact CE.out _ (HST.out _ BS.out.drew))
          clear hK K
          try simp only [Act.put, tkS]
          refine wpAnyH_ready (rs := [5]) (by kernel_rfl) (by simp) (AllReadyH.cons rfl (fun K hK => ?_) AllReadyH.nil)
          go_simp
          go_at_call 10
          refine (TO2.out _ (by first | exact HSX.out _ (HST.out _ BS.out) | exact HSX.out _ (HST.out _ BS.out.drew))).mono ?_
          rintro e wt2 ⟨p2_, rfl, ho, hB, -⟩
          have hb : Below (wt1.alloc (.cells #[.int .i64 0, .slice none 0 0] 35)).heap.size (wt1.alloc (.cells #[.int .i64 0, .slice none 0 0] 35)) wt2 := by first | exact hB | exact (Below.refl _ _).drew.trans hB
          have BS' : Hid (Below wh9.heap.size wh9 wt2) := BS.out.trans (hb.mono BS.out.size)
          clear BS
          have BS := BS'
          clear BS'
          have BC0' : Hid (Below wt0.heap.size wt0 wt2) := BC0.out.trans (hb.mono BC0.out.size)
          clear BC0
          have BC0 := BC0'
          clear BC0'
          have BC1' : Hid (Below wt1.heap.size wt1 wt2) := BC1.out.trans (hb.mono BC1.out.size)
          clear BC1
          have BC1 := BC1'
          clear BC1'
          have BA' : Hid (Below (wt1.alloc (.cells #[.int .i64 0, .slice none 0 0] 35)).heap.size (wt1.alloc (.cells #[.int .i64 0, .slice none 0 0] 35)) wt2) := BA.out.trans (hb.mono BA.out.size)
          clear BA
          have BA := BA'
          clear BA'
          have RC2_ : Hid (∀ W, Below wt2.heap.size wt2 W → Rd W (fun _ => True) (dMutS x2) (.slice (some ⟨p2_, 0, none⟩) x2.length x2.length)) := fun W h => Rd.later (ho.rd'.any) h
          have BC2 : Hid (Below wt2.heap.size wt2 wt2) := Below.refl _ _
          clear hb hB ho
          refine hK.out _ _ ?_ (fun hHeld => ?_)
          · (first | exact CE.out _ (HST.out _ BS.out) | exact CE.out _ (HST.out _ BS.out.drew))
          clear hK K
          try simp only [Act.put, tkS]
          refine wpAnyH_ready (rs := [6]) (by kernel_rfl) (by simp) (AllReadyH.cons rfl (fun K hK => ?_) AllReadyH.nil)
          go_simp
          have LT0 : Hid (wt1.heap.size < wt2.heap.size) := (Array.getElem?_eq_some_iff.1 (HZ.out _ BA.out)).1
          go_at_call 11
          refine (CI.out _ _ _ _ _ _ _ _ _ (by first | exact RC0_1.out _ BC0.out | exact RC0_1.out _ BC0.out.drew) (by first | exact RC0_2.out _ BC0.out | exact RC0_2.out _ BC0.out.drew) (by first | exact RC1_1.out _ BC1.out | exact RC1_1.out _ BC1.out.drew) (by first | exact RC2_.out _ BC2.out | exact RC2_.out _ BC2.out.drew)).mono ?_
          rintro e w2 ⟨ya, yc, rfl, hr2, hB⟩
          replace hr2 := Own.rd' hr2
          have hb : Below wt2.heap.size wt2 w2 := by first | exact hB | exact (Below.refl _ _).drew.trans hB
          have BS' : Hid (Below wh9.heap.size wh9 w2) := BS.out.trans (hb.mono BS.out.size)
          clear BS
          have BS := BS'
          clear BS'
          have BC0' : Hid (Below wt0.heap.size wt0 w2) := BC0.out.trans (hb.mono BC0.out.size)
          clear BC0
          have BC0 := BC0'
          clear BC0'
          have BC1' : Hid (Below wt1.heap.size wt1 w2) := BC1.out.trans (hb.mono BC1.out.size)
          clear BC1
          have BC1 := BC1'
          clear BC1'
          have BA' : Hid (Below (wt1.alloc (.cells #[.int .i64 0, .slice none 0 0] 35)).heap.size (wt1.alloc (.cells #[.int .i64 0, .slice none 0 0] 35)) w2) := BA.out.trans (hb.mono BA.out.size)
          clear BA
          have BA := BA'
          clear BA'
          have BC2' : Hid (Below wt2.heap.size wt2 w2) := BC2.out.trans (hb.mono BC2.out.size)
          clear BC2
          have BC2 := BC2'
          clear BC2'
          have HR2 : Hid (Rd w2 (fun b => wt2.heap.size ≤ b ∧ b < w2.heap.size) (dAtomSS R0.cells) (.slice ya R0.cells.length yc)) := by first | exact hr2 | (simpa using hr2)
          clear hb hB hr2
          refine hK.out _ _ ?_ (fun hHeld => ?_)
          · (first | exact CE.out _ (HST.out _ BS.out) | exact CE.out _ (HST.out _ BS.out.drew))
          clear hK K
          try simp only [Act.put, tkS]
          refine wpAnyH_take (i := 7) (v := ?_) rfl (by kernel_rfl) (by kernel_rfl) (by kernel_rfl) (fun _ _ _ h => h) (Or.inl ⟨by kernel_rfl, ?_⟩) (by assumption) ?_
          rotate_left
          · (intro wS hSw; (try dsimp only at hSw); go_simp <;> with_reducible rfl)
          try simp only [Act.put, tkS]
          refine wpAnyH_take (i := 8) (v := ?_) rfl (by kernel_rfl) (by kernel_rfl) (by kernel_rfl) (fun _ _ _ h => h) (Or.inl ⟨by kernel_rfl, ?_⟩) (by assumption) ?_
          rotate_left
          · (intro wS hSw; (try dsimp only at hSw); go_simp <;> with_reducible rfl)
          try simp only [Act.put, tkS]
          refine wpAnyH_take (i := 9) (v := ?_) rfl (by kernel_rfl) (by kernel_rfl) (by kernel_rfl) (fun _ _ _ h => h) (Or.inl ⟨by kernel_rfl, ?_⟩) (by assumption) ?_
          rotate_left
          · (intro wS hSw; (try dsimp only at hSw); go_simp <;> with_reducible rfl)
          try simp only [Act.put, tkS]
          refine wpAnyH_ready (rs := [11]) (by kernel_rfl) (by simp) (AllReadyH.cons rfl (fun K hK => ?_) AllReadyH.nil)
          have zc0 := cell_at (o := 0) (HZ.out _ BA.out) rfl
          have zf0 := frozen_at 0 (HZ.out _ BA.out)
          have zc1 := cell_at (o := 1) (HZ.out _ BA.out) rfl
          have zf1 := frozen_at 1 (HZ.out _ BA.out)
          go_simp
          clear zc0 zf0 zc1 zf1
          have hlo : wh9.heap.size ≤ wt1.heap.size := LO.out
          have BT : Hid (Below wh9.heap.size wh9 ((w2.setCell ⟨wt1.heap.size, 0, none⟩ (.int .i64 R0.id)).setCell ⟨wt1.heap.size, 1, none⟩ (.slice ya R0.cells.length yc))) := ((BS.out.setCell (by first | exact hlo | (show _ ≤ _; exact hlo)) _).setCell (by first | exact hlo | (show _ ≤ _; exact hlo)) _)
          clear BS hlo
          have BS := BT
          clear BT
          refine hK.out _ _ ?_ (fun hHeld => ?_)
          · (first | exact CE.out _ (HST.out _ BS.out) | exact CE.out _ (HST.out _ BS.out.drew))
          clear hK K
          try simp only [Act.put, tkS]
          refine wpAnyH_take (i := 12) (v := ?_) rfl (by kernel_rfl) (by kernel_rfl) (by kernel_rfl) (fun _ _ _ h => h) (Or.inl ⟨by kernel_rfl, ?_⟩) (by assumption) ?_
          rotate_left
          · (intro wS hSw; (try dsimp only at hSw); go_simp <;> with_reducible rfl)
          try simp only [Act.put, tkS]
          refine wpAnyH_done (by kernel_rfl) ?_ _
          have HF := Lib.hid (HST.out _ BS.out)
          go_wp2_with fail
          go_meet
          exact ⟨ya, yc, _, rfl, rfl, HF.out, heap_set 1 _ (heap_set 0 _ (HZ.out _ BA.out)), (HR2.out.frm (F := (· = wt1.heap.size)) ((frm_set _ _ _ _).trans (frm_set _ _ _ _)) (fun b hb e => by have e' : b = wt1.heap.size := e; have h1 := hb.1; have h2 := LT0.out; omega)).mono (fun _ _ => trivial)⟩
      ·
        go_simp
        have LO : Hid (wh9.heap.size ≤ wt0.heap.size) := BS.out.size
        have BS' : Hid (Below wh9.heap.size wh9 (wt0.alloc (.cells #[.int .i64 0, .slice none 0 0] 35))) := BS.out.alloc BS.out.size _
        clear BS
        have BS := BS'
        clear BS'
        have BC0' : Hid (Below wt0.heap.size wt0 (wt0.alloc (.cells #[.int .i64 0, .slice none 0 0] 35))) := BC0.out.alloc BC0.out.size _
        clear BC0
        have BC0 := BC0'
        clear BC0'
        have HZ : Hid (∀ W, Below (wt0.alloc (.cells #[.int .i64 0, .slice none 0 0] 35)).heap.size (wt0.alloc (.cells #[.int .i64 0, .slice none 0 0] 35)) W → W.heap[wt0.heap.size]? = some (.cells #[.int .i64 0, .slice none 0 0] 35)) := fun W h => heap_keptD (heap_newD _ _) h
        have BA : Hid (Below (wt0.alloc (.cells #[.int .i64 0, .slice none 0 0] 35)).heap.size (wt0.alloc (.cells #[.int .i64 0, .slice none 0 0] 35)) (wt0.alloc (.cells #[.int .i64 0, .slice none 0 0] 35))) := Below.refl _ _
        refine hK.out _ _ ?_ (fun hHeld => ?_)
        · (first | exact CE.out _ (HST.out _ BS.out) | exact CE.out _ (HST.out _ BS.out.drew))
        clear hK K
        try simp only [Act.put, tkS]
        refine wpAnyH_ready (rs := [3]) (by kernel_rfl) (by simp) (AllReadyH.cons rfl (fun K hK => ?_) AllReadyH.nil)
        go_simp
        go_at_call 9
        refine (TO1.out _ (by first | exact HSX.out _ (HST.out _ BS.out) | exact HSX.out _ (HST.out _ BS.out.drew))).mono ?_
        rintro e wt1 ⟨p1_1, rfl, ho, hB, -⟩
        have hb : Below (wt0.alloc (.cells #[.int .i64 0, .slice none 0 0] 35)).heap.size (wt0.alloc (.cells #[.int .i64 0, .slice none 0 0] 35)) wt1 := by first | exact hB | exact (Below.refl _ _).drew.trans hB
        have BS' : Hid (Below wh9.heap.size wh9 wt1) := BS.out.trans (hb.mono BS.out.size)
        clear BS
        have BS := BS'
        clear BS'
        have BC0' : Hid (Below wt0.heap.size wt0 wt1) := BC0.out.trans (hb.mono BC0.out.size)
        clear BC0
        have BC0 := BC0'
        clear BC0'
        have BA' : Hid (Below (wt0.alloc (.cells #[.int .i64 0, .slice none 0 0] 35)).heap.size (wt0.alloc (.cells #[.int .i64 0, .slice none 0 0] 35)) wt1) := BA.out.trans (hb.mono BA.out.size)
        clear BA
        have BA := BA'
        clear BA'
        have RC1_1 : Hid (∀ W, Below wt1.heap.size wt1 W → Rd W (fun _ => True) (dAtomSS x1.cells) (.slice (some ⟨p1_1, 0, none⟩) x1.cells.length x1.cells.length)) := fun W h => Rd.later ((Owns.one ho (j := 1) (by omega)).rd'.any) h
        have BC1 : Hid (Below wt1.heap.size wt1 wt1) := Below.refl _ _
        clear hb hB ho
        refine hK.out _ _ ?_ (fun hHeld => ?_)
        · (first | exact CE.out _ (HST.out _ BS.out) | exact CE.out _ (HST.out _ BS.out.drew))
        clear hK K
        try simp only [Act.put, tkS]
        refine wpAnyH_ready (rs := [5]) (by kernel_rfl) (by simp) (AllReadyH.cons rfl (fun K hK => ?_) AllReadyH.nil)
        go_simp
        go_at_call 10
        refine (TO2.out _ (by first | exact HSX.out _ (HST.out _ BS.out) | exact HSX.out _ (HST.out _ BS.out.drew))).mono ?_
        rintro e wt2 ⟨p2_, rfl, ho, hB, -⟩
        have hb : Below wt1.heap.size wt1 wt2 := by first | exact hB | exact (Below.refl _ _).drew.trans hB
        have BS' : Hid (Below wh9.heap.size wh9 wt2) := BS.out.trans (hb.mono BS.out.size)
        clear BS
        have BS := BS'
        clear BS'
        have BC0' : Hid (Below wt0.heap.size wt0 wt2) := BC0.out.trans (hb.mono BC0.out.size)
        clear BC0
        have BC0 := BC0'
        clear BC0'
        have BA' : Hid (Below (wt0.alloc (.cells #[.int .i64 0, .slice none 0 0] 35)).heap.size (wt0.alloc (.cells #[.int .i64 0, .slice none 0 0] 35)) wt2) := BA.out.trans (hb.mono BA.out.size)
        clear BA
        have BA := BA'
        clear BA'
        have BC1' : Hid (Below wt1.heap.size wt1 wt2) := BC1.out.trans (hb.mono BC1.out.size)
        clear BC1
        have BC1 := BC1'
        clear BC1'
        have RC2_ : Hid (∀ W, Below wt2.heap.size wt2 W → Rd W (fun _ => True) (dMutS x2) (.slice (some ⟨p2_, 0, none⟩) x2.length x2.length)) := fun W h => Rd.later (ho.rd'.any) h
        have BC2 : Hid (Below wt2.heap.size wt2 wt2) := Below.refl _ _
        clear hb hB ho
        refine hK.out _ _ ?_ (fun hHeld => ?_)
        · (first | exact CE.out _ (HST.out _ BS.out) | exact CE.out _ (HST.out _ BS.out.drew))
        clear hK K
        try simp only [Act.put, tkS]
        refine wpAnyH_ready (rs := [6]) (by kernel_rfl) (by simp) (AllReadyH.cons rfl (fun K hK => ?_) AllReadyH.nil)
        go_simp
        have LT0 : Hid (wt0.heap.size < wt2.heap.size) := (Array.getElem?_eq_some_iff.1 (HZ.out _ BA.out)).1
        go_at_call 11
        refine (CI.out _ _ _ _ _ _ _ _ _ (by first | exact RC0_1.out _ BC0.out | exact RC0_1.out _ BC0.out.drew) (by first | exact RC0_2.out _ BC0.out | exact RC0_2.out _ BC0.out.drew) (by first | exact RC1_1.out _ BC1.out | exact RC1_1.out _ BC1.out.drew) (by first | exact RC2_.out _ BC2.out | exact RC2_.out _ BC2.out.drew)).mono ?_
        rintro e w2 ⟨ya, yc, rfl, hr2, hB⟩
        replace hr2 := Own.rd' hr2
        have hb : Below wt2.heap.size wt2 w2 := by first | exact hB | exact (Below.refl _ _).drew.trans hB
        have BS' : Hid (Below wh9.heap.size wh9 w2) := BS.out.trans (hb.mono BS.out.size)
        clear BS
        have BS := BS'
        clear BS'
        have BC0' : Hid (Below wt0.heap.size wt0 w2) := BC0.out.trans (hb.mono BC0.out.size)
        clear BC0
        have BC0 := BC0'
        clear BC0'
        have BA' : Hid (Below (wt0.alloc (.cells #[.int .i64 0, .slice none 0 0] 35)).heap.size (wt0.alloc (.cells #[.int .i64 0, .slice none 0 0] 35)) w2) := BA.out.trans (hb.mono BA.out.size)
        clear BA
        have BA := BA'
        clear BA'
        have BC1' : Hid (Below wt1.heap.size wt1 w2) := BC1.out.trans (hb.mono BC1.out.size)
        clear BC1
        have BC1 := BC1'
        clear BC1'
        have BC2' : Hid (Below wt2.heap.size wt2 w2) := BC2.out.trans (hb.mono BC2.out.size)
        clear BC2
        have BC2 := BC2'
        clear BC2'
        have HR2 : Hid (Rd w2 (fun b => wt2.heap.size ≤ b ∧ b < w2.heap.size) (dAtomSS R0.cells) (.slice ya R0.cells.length yc)) := by first | exact hr2 | (simpa using hr2)
        clear hb hB hr2
        refine hK.out _ _ ?_ (fun hHeld => ?_)
        · (first | exact CE.out _ (HST.out _ BS.out) | exact CE.out _ (HST.out _ BS.out.drew))
        clear hK K
        try simp only [Act.put, tkS]
        refine wpAnyH_take (i := 7) (v := ?_) rfl (by kernel_rfl) (by kernel_rfl) (by kernel_rfl) (fun _ _ _ h => h) (Or.inl ⟨by kernel_rfl, ?_⟩) (by assumption) ?_
        rotate_left
        · (intro wS hSw; (try dsimp only at hSw); go_simp <;> with_reducible rfl)
        try simp only [Act.put, tkS]
        refine wpAnyH_take (i := 8) (v := ?_) rfl (by kernel_rfl) (by kernel_rfl) (by kernel_rfl) (fun _ _ _ h => h) (Or.inl ⟨by kernel_rfl, ?_⟩) (by assumption) ?_
        rotate_left
        · (intro wS hSw; (try dsimp only at hSw); go_simp <;> with_reducible rfl)
        try simp only [Act.put, tkS]
        refine wpAnyH_take (i := 9) (v := ?_) rfl (by kernel_rfl) (by kernel_rfl) (by kernel_rfl) (fun _ _ _ h => h) (Or.inl ⟨by kernel_rfl, ?_⟩) (by assumption) ?_
        rotate_left
        · (intro wS hSw; (try dsimp only at hSw); go_simp <;> with_reducible rfl)
        try simp only [Act.put, tkS]
        refine wpAnyH_ready (rs := [11]) (by kernel_rfl) (by simp) (AllReadyH.cons rfl (fun K hK => ?_) AllReadyH.nil)
        have zc0 := cell_at (o := 0) (HZ.out _ BA.out) rfl
        have zf0 := frozen_at 0 (HZ.out _ BA.out)
        have zc1 := cell_at (o := 1) (HZ.out _ BA.out) rfl
        have zf1 := frozen_at 1 (HZ.out _ BA.out)
        go_simp
        clear zc0 zf0 zc1 zf1
        have hlo : wh9.heap.size ≤ wt0.heap.size := LO.out
        have BT : Hid (Below wh9.heap.size wh9 ((w2.setCell ⟨wt0.heap.size, 0, none⟩ (.int .i64 R0.id)).setCell ⟨wt0.heap.size, 1, none⟩ (.slice ya R0.cells.length yc))) := ((BS.out.setCell (by first | exact hlo | (show _ ≤ _; exact hlo)) _).setCell (by first | exact hlo | (show _ ≤ _; exact hlo)) _)
        clear BS hlo
        have BS := BT
        clear BT
        refine hK.out _ _ ?_ (fun hHeld => ?_)
        · (first | exact CE.out _ (HST.out _ BS.out) | exact CE.out _ (HST.out _ BS.out.drew))
        clear hK K
        try simp only [Act.put, tkS]
        refine wpAnyH_take (i := 12) (v := ?_) rfl (by kernel_rfl) (by kernel_rfl) (by kernel_rfl) (fun _ _ _ h => h) (Or.inl ⟨by kernel_rfl, ?_⟩) (by assumption) ?_
        rotate_left
        · (intro wS hSw; (try dsimp only at hSw); go_simp <;> with_reducible rfl)
        try simp only [Act.put, tkS]
        refine wpAnyH_done (by kernel_rfl) ?_ _
        have HF := Lib.hid (HST.out _ BS.out)
        go_wp2_with fail
        go_meet
        exact ⟨ya, yc, _, rfl, rfl, HF.out, heap_set 1 _ (heap_set 0 _ (HZ.out _ BA.out)), (HR2.out.frm (F := (· = wt0.heap.size)) ((frm_set _ _ _ _).trans (frm_set _ _ _ _)) (fun b hb e => by have e' : b = wt0.heap.size := e; have h1 := hb.1; have h2 := LT0.out; omega)).mono (fun _ _ => trivial)⟩
    ·
      go_simp
      have LO : Hid (wh9.heap.size ≤ wh9.heap.size) := BS.out.size
      have BS' : Hid (Below wh9.heap.size wh9 (wh9.alloc (.cells #[.int .i64 0, .slice none 0 0] 35))) := BS.out.alloc BS.out.size _
      clear BS
      have BS := BS'
      clear BS'
      have HZ : Hid (∀ W, Below (wh9.alloc (.cells #[.int .i64 0, .slice none 0 0] 35)).heap.size (wh9.alloc (.cells #[.int .i64 0, .slice none 0 0] 35)) W → W.heap[wh9.heap.size]? = some (.cells #[.int .i64 0, .slice none 0 0] 35)) := fun W h => heap_keptD (heap_newD _ _) h
      have BA : Hid (Below (wh9.alloc (.cells #[.int .i64 0, .slice none 0 0] 35)).heap.size (wh9.alloc (.cells #[.int .i64 0, .slice none 0 0] 35)) (wh9.alloc (.cells #[.int .i64 0, .slice none 0 0] 35))) := Below.refl _ _
      refine hK.out _ _ ?_ (fun hHeld => ?_)
      · (first | exact CE.out _ (HST.out _ BS.out) | exact CE.out _ (HST.out _ BS.out.drew))
      clear hK K
      try simp only [Act.put, tkS]
      refine wpAnyH_ready (rs := [1]) (by kernel_rfl) (by simp) (AllReadyH.cons rfl (fun K hK => ?_) AllReadyH.nil)
      go_simp
      go_at_call 8
      refine (TO0.out _ (by first | exact HSX.out _ (HST.out _ BS.out) | exact HSX.out _ (HST.out _ BS.out.drew))).mono ?_
      rintro e wt0 ⟨p0_1, p0_2, rfl, ho, hB, -⟩
      have hb : Below (wh9.alloc (.cells #[.int .i64 0, .slice none 0 0] 35)).heap.size (wh9.alloc (.cells #[.int .i64 0, .slice none 0 0] 35)) wt0 := by first | exact hB | exact (Below.refl _ _).drew.trans hB
      have BS' : Hid (Below wh9.heap.size wh9 wt0) := BS.out.trans (hb.mono BS.out.size)
      clear BS
      have BS := BS'
      clear BS'
      have BA' : Hid (Below (wh9.alloc (.cells #[.int .i64 0, .slice none 0 0] 35)).heap.size (wh9.alloc (.cells #[.int .i64 0, .slice none 0 0] 35)) wt0) := BA.out.trans (hb.mono BA.out.size)
      clear BA
      have BA := BA'
      clear BA'
      have RC0_1 : Hid (∀ W, Below wt0.heap.size wt0 W → Rd W (fun _ => True) (dColumnS x0.cols) (.slice (some ⟨p0_1, 0, none⟩) x0.cols.length x0.cols.length)) := fun W h => Rd.later ((Owns.one ho (j := 1) (by omega)).rd'.any) h
      have RC0_2 : Hid (∀ W, Below wt0.heap.size wt0 W → Rd W (fun _ => True) (dIntS x0.uq) (.slice (some ⟨p0_2, 0, none⟩) x0.uq.length x0.uq.length)) := fun W h => Rd.later ((Owns.one ho (j := 2) (by omega)).rd'.any) h
      have BC0 : Hid (Below wt0.heap.size wt0 wt0) := Below.refl _ _
      clear hb hB ho
      refine hK.out _ _ ?_ (fun hHeld => ?_)
      · (first | exact CE.out _ (HST.out _ BS.out) | exact CE.out _ (HST.out _ BS.out.drew))
      clear hK K
      try simp only [Act.put, tkS]
      refine wpAnyH_ready (rs := [3]) (by kernel_rfl) (by simp) (AllReadyH.cons rfl (fun K hK => ?_) AllReadyH.nil)
      go_simp
      go_at_call 9
      refine (TO1.out _ (by first | exact HSX.out _ (HST.out _ BS.out) | exact HSX.out _ (HST.out _ BS.out.drew))).mono ?_
      rintro e wt1 ⟨p1_1, rfl, ho, hB, -⟩
      have hb : Below wt0.heap.size wt0 wt1 := by first | exact hB | exact (Below.refl _ _).drew.trans hB
      have BS' : Hid (Below wh9.heap.size wh9 wt1) := BS.out.trans (hb.mono BS.out.size)
      clear BS
      have BS := BS'
      clear BS'
      have BA' : Hid (Below (wh9.alloc (.cells #[.int .i64 0, .slice none 0 0] 35)).heap.size (wh9.alloc (.cells #[.int .i64 0, .slice none 0 0] 35)) wt1) := BA.out.trans (hb.mono BA.out.size)
      clear BA
      have BA := BA'
      clear BA'
      have BC0' : Hid (Below wt0.heap.size wt0 wt1) := BC0.out.trans (hb.mono BC0.out.size)
      clear BC0
      have BC0 := BC0'
      clear BC0'
      have RC1_1 : Hid (∀ W, Below wt1.heap.size wt1 W → Rd W (fun _ => True) (dAtomSS x1.cells) (.slice (some ⟨p1_1, 0, none⟩) x1.cells.length x1.cells.length)) := fun W h => Rd.later ((Owns.one ho (j := 1) (by omega)).rd'.any) h
      have BC1 : Hid (Below wt1.heap.size wt1 wt1) := Below.refl _ _
      clear hb hB ho
      refine hK.out _ _ ?_ (fun hHeld => ?_)
      · (first | exact CE.out _ (HST.out _ BS.out) | exact CE.out _ (HST.out _ BS.out.drew))
      clear hK K
      try simp only [Act.put, tkS]
      refine wpAnyH_ready (rs := [5]) (by kernel_rfl) (by simp) (AllReadyH.cons rfl (fun K hK => ?_) AllReadyH.nil)
      go_simp
      go_at_call 10
      refine (TO2.out _ (by first | exact HSX.out _ (HST.out _ BS.out) | exact HSX.out _ (HST.out _ BS.out.drew))).mono ?_
      rintro e wt2 ⟨p2_, rfl, ho, hB, -⟩
      have hb : Below wt1.heap.size wt1 wt2 := by first | exact hB | exact (Below.refl _ _).drew.trans hB
      have BS' : Hid (Below wh9.heap.size wh9 wt2) := BS.out.trans (hb.mono BS.out.size)
      clear BS
      have BS := BS'
      clear BS'
      have BA' : Hid (Below (wh9.alloc (.cells #[.int .i64 0, .slice none 0 0] 35)).heap.size (wh9.alloc (.cells #[.int .i64 0, .slice none 0 0] 35)) wt2) := BA.out.trans (hb.mono BA.out.size)
      clear BA
      have BA := BA'
      clear BA'
      have BC0' : Hid (Below wt0.heap.size wt0 wt2) := BC0.out.trans (hb.mono BC0.out.size)
      clear BC0
      have BC0 := BC0'
      clear BC0'
      have BC1' : Hid (Below wt1.heap.size wt1 wt2) := BC1.out.trans (hb.mono BC1.out.size)
      clear BC1
      have BC1 := BC1'
      clear BC1'
      have RC2_ : Hid (∀ W, Below wt2.heap.size wt2 W → Rd W (fun _ => True) (dMutS x2) (.slice (some ⟨p2_, 0, none⟩) x2.length x2.length)) := fun W h => Rd.later (ho.rd'.any) h
      have BC2 : Hid (Below wt2.heap.size wt2 wt2) := Below.refl _ _
      clear hb hB ho
      refine hK.out _ _ ?_ (fun hHeld => ?_)
      · (first | exact CE.out _ (HST.out _ BS.out) | exact CE.out _ (HST.out _ BS.out.drew))
      clear hK K
      try simp only [Act.put, tkS]
      refine wpAnyH_ready (rs := [6]) (by kernel_rfl) (by simp) (AllReadyH.cons rfl (fun K hK => ?_) AllReadyH.nil)
      go_simp
      have LT0 : Hid (wh9.heap.size < wt2.heap.size) := (Array.getElem?_eq_some_iff.1 (HZ.out _ BA.out)).1
      go_at_call 11
      refine (CI.out _ _ _ _ _ _ _ _ _ (by first | exact RC0_1.out _ BC0.out | exact RC0_1.out _ BC0.out.drew) (by first | exact RC0_2.out _ BC0.out | exact RC0_2.out _ BC0.out.drew) (by first | exact RC1_1.out _ BC1.out | exact RC1_1.out _ BC1.out.drew) (by first | exact RC2_.out _ BC2.out | exact RC2_.out _ BC2.out.drew)).mono ?_
      rintro e w2 ⟨ya, yc, rfl, hr2, hB⟩
      replace hr2 := Own.rd' hr2
      have hb : Below wt2.heap.size wt2 w2 := by first | exact hB | exact (Below.refl _ _).drew.trans hB
      have BS' : Hid (Below wh9.heap.size wh9 w2) := BS.out.trans (hb.mono BS.out.size)
      clear BS
      have BS := BS'
      clear BS'
      have BA' : Hid (Below (wh9.alloc (.cells #[.int .i64 0, .slice none 0 0] 35)).heap.size (wh9.alloc (.cells #[.int .i64 0, .slice none 0 0] 35)) w2) := BA.out.trans (hb.mono BA.out.size)
      clear BA
      have BA := BA'
      clear BA'
      have BC0' : Hid (Below wt0.heap.size wt0 w2) := BC0.out.trans (hb.mono BC0.out.size)
      clear BC0
      have BC0 := BC0'
      clear BC0'
      have BC1' : Hid (Below wt1.heap.size wt1 w2) := BC1.out.trans (hb.mono BC1.out.size)
      clear BC1
      have BC1 := BC1'
      clear BC1'
      have BC2' : Hid (Below wt2.heap.size wt2 w2) := BC2.out.trans (hb.mono BC2.out.size)
      clear BC2
      have BC2 := BC2'
      clear BC2'
      have HR2 : Hid (Rd w2 (fun b => wt2.heap.size ≤ b ∧ b < w2.heap.size) (dAtomSS R0.cells) (.slice ya R0.cells.length yc)) := by first | exact hr2 | (simpa using hr2)
      clear hb hB hr2
      refine hK.out _ _ ?_ (fun hHeld => ?_)
      · (first | exact CE.out _ (HST.out _ BS.out) | exact CE.out _ (HST.out _ BS.out.drew))
      clear hK K
      try simp only [Act.put, tkS]
      refine wpAnyH_take (i := 7) (v := ?_) rfl (by kernel_rfl) (by kernel_rfl) (by kernel_rfl) (fun _ _ _ h => h) (Or.inl ⟨by kernel_rfl, ?_⟩) (by assumption) ?_
      rotate_left
      · (intro wS hSw; (try dsimp only at hSw); go_simp <;> with_reducible rfl)
      try simp only [Act.put, tkS]
      refine wpAnyH_take (i := 8) (v := ?_) rfl (by kernel_rfl) (by kernel_rfl) (by kernel_rfl) (fun _ _ _ h => h) (Or.inl ⟨by kernel_rfl, ?_⟩) (by assumption) ?_
      rotate_left
      · (intro wS hSw; (try dsimp only at hSw); go_simp <;> with_reducible rfl)
      try simp only [Act.put, tkS]
      refine wpAnyH_take (i := 9) (v := ?_) rfl (by kernel_rfl) (by kernel_rfl) (by kernel_rfl) (fun _ _ _ h => h) (Or.inl ⟨by kernel_rfl, ?_⟩) (by assumption) ?_
      rotate_left
      · (intro wS hSw; (try dsimp only at hSw); go_simp <;> with_reducible rfl)
      try simp only [Act.put, tkS]
      refine wpAnyH_ready (rs := [11]) (by kernel_rfl) (by simp) (AllReadyH.cons rfl (fun K hK => ?_) AllReadyH.nil)
      have zc0 := cell_at (o := 0) (HZ.out _ BA.out) rfl
      have zf0 := frozen_at 0 (HZ.out _ BA.out)
      have zc1 := cell_at (o := 1) (HZ.out _ BA.out) rfl
      have zf1 := frozen_at 1 (HZ.out _ BA.out)
      go_simp
      clear zc0 zf0 zc1 zf1
      have hlo : wh9.heap.size ≤ wh9.heap.size := LO.out
      have BT : Hid (Below wh9.heap.size wh9 ((w2.setCell ⟨wh9.heap.size, 0, none⟩ (.int .i64 R0.id)).setCell ⟨wh9.heap.size, 1, none⟩ (.slice ya R0.cells.length yc))) := ((BS.out.setCell (by first | exact hlo | (show _ ≤ _; exact hlo)) _).setCell (by first | exact hlo | (show _ ≤ _; exact hlo)) _)
      clear BS hlo
      have BS := BT
      clear BT
      refine hK.out _ _ ?_ (fun hHeld => ?_)
      · (first | exact CE.out _ (HST.out _ BS.out) | exact CE.out _ (HST.out _ BS.out.drew))
      clear hK K
      try simp only [Act.put, tkS]
      refine wpAnyH_take (i := 12) (v := ?_) rfl (by kernel_rfl) (by kernel_rfl) (by kernel_rfl) (fun _ _ _ h => h) (Or.inl ⟨by kernel_rfl, ?_⟩) (by assumption) ?_
      rotate_left
      · (intro wS hSw; (try dsimp only at hSw); go_simp <;> with_reducible rfl)
      try simp only [Act.put, tkS]
      refine wpAnyH_done (by kernel_rfl) ?_ _
      have HF := Lib.hid (HST.out _ BS.out)
      go_wp2_with fail
      go_meet
      exact ⟨ya, yc, _, rfl, rfl, HF.out, heap_set 1 _ (heap_set 0 _ (HZ.out _ BA.out)), (HR2.out.frm (F := (· = wh9.heap.size)) ((frm_set _ _ _ _).trans (frm_set _ _ _ _)) (fun b hb e => by have e' : b = wh9.heap.size := e; have h1 := hb.1; have h2 := LT0.out; omega)).mono (fun _ _ => trivial)⟩
  obtain ⟨ya, yc, b1, rfl, rfl, HCUT⟩ := hcut
  have N11 := Lib.hid HCUT.out.1
  have BH := Lib.hid HCUT.out.2
  clear HCUT HST CE HSX
  have f_arg0_0 := cell_at (o := 0) N11.out.2.1 rfl
  have f_arg0_1 := cell_at (o := 1) N11.out.2.1 rfl
  have f_arg0_2 := cell_at (o := 2) N11.out.2.1 rfl
  have f_arg0_3 := cell_at (o := 3) N11.out.2.1 rfl
  have f_arg1_0 := cell_at (o := 0) N11.out.2.2.1 rfl
  have f_arg1_1 := cell_at (o := 1) N11.out.2.2.1 rfl
  have f_w0_0 := cell_at (o := 0) N11.out.2.2.2.1 rfl
  have f_w0_1 := cell_at (o := 1) N11.out.2.2.2.1 rfl
  have f_x0_0 := cell_at (o := 0) N11.out.2.2.2.2.2.1 rfl
  have f_x0_1 := cell_at (o := 1) N11.out.2.2.2.2.2.1 rfl
  have f_x0_2 := cell_at (o := 2) N11.out.2.2.2.2.2.1 rfl
  have f_x0_3 := cell_at (o := 3) N11.out.2.2.2.2.2.1 rfl
  have f_x1_0 := cell_at (o := 0) N11.out.2.2.2.2.2.2.2.2.1 rfl
  have f_x1_1 := cell_at (o := 1) N11.out.2.2.2.2.2.2.2.2.1 rfl
  have f_g_0 := cell_at (o := 0) N11.out.2.2.2.2.2.2.2.2.2.2.2.1 rfl
  have f_g_1 := cell_at (o := 1) N11.out.2.2.2.2.2.2.2.2.2.2.2.1 rfl
  have h_0 := cell_at (o := 0) BH.out.1 rfl
  have h_1 := cell_at (o := 1) BH.out.1 rfl
  go_wp2_with fail
  refine (EQR.out _ _ _ _ _ BH.out.2 (Rd.any (N11.out.2.2.2.2.1))).mono ?_
  rintro e wv ⟨rfl, hB⟩
  have N12 := Lib.hid (TGL.out _ _ N11.out hB)
  clear f_arg0_0 f_arg0_1 f_arg0_2 f_arg0_3 f_arg1_0 f_arg1_1 f_w0_0 f_w0_1 f_x0_0 f_x0_1 f_x0_2 f_x0_3 f_x1_0 f_x1_1 f_g_0 f_g_1
  clear hB N11
  have f_arg0_0 := cell_at (o := 0) N12.out.2.1 rfl
  have f_arg0_1 := cell_at (o := 1) N12.out.2.1 rfl
  have f_arg0_2 := cell_at (o := 2) N12.out.2.1 rfl
  have f_arg0_3 := cell_at (o := 3) N12.out.2.1 rfl
  have f_arg1_0 := cell_at (o := 0) N12.out.2.2.1 rfl
  have f_arg1_1 := cell_at (o := 1) N12.out.2.2.1 rfl
  have f_w0_0 := cell_at (o := 0) N12.out.2.2.2.1 rfl
  have f_w0_1 := cell_at (o := 1) N12.out.2.2.2.1 rfl
  have f_x0_0 := cell_at (o := 0) N12.out.2.2.2.2.2.1 rfl
  have f_x0_1 := cell_at (o := 1) N12.out.2.2.2.2.2.1 rfl
  have f_x0_2 := cell_at (o := 2) N12.out.2.2.2.2.2.1 rfl
  have f_x0_3 := cell_at (o := 3) N12.out.2.2.2.2.2.1 rfl
  have f_x1_0 := cell_at (o := 0) N12.out.2.2.2.2.2.2.2.2.1 rfl
  have f_x1_1 := cell_at (o := 1) N12.out.2.2.2.2.2.2.2.2.1 rfl
  have f_g_0 := cell_at (o := 0) N12.out.2.2.2.2.2.2.2.2.2.2.2.1 rfl
  have f_g_1 := cell_at (o := 1) N12.out.2.2.2.2.2.2.2.2.2.2.2.1 rfl
  clear h_0 h_1
  go_wp2_with fail
  refine (HD.out _ (Rd.any (Own.rd' (N12.out.2.2.2.2.2.2.2.2.2.2.2.2)))).mono ?_
  rintro e wh12 ⟨rfl, hB⟩
  have N13 := Lib.hid (TGL.out _ _ N12.out hB)
  clear f_arg0_0 f_arg0_1 f_arg0_2 f_arg0_3 f_arg1_0 f_arg1_1 f_w0_0 f_w0_1 f_x0_0 f_x0_1 f_x0_2 f_x0_3 f_x1_0 f_x1_1 f_g_0 f_g_1
  clear hB N12
  have f_arg0_0 := cell_at (o := 0) N13.out.2.1 rfl
  have f_arg0_1 := cell_at (o := 1) N13.out.2.1 rfl
  have f_arg0_2 := cell_at (o := 2) N13.out.2.1 rfl
  have f_arg0_3 := cell_at (o := 3) N13.out.2.1 rfl
  have f_arg1_0 := cell_at (o := 0) N13.out.2.2.1 rfl
  have f_arg1_1 := cell_at (o := 1) N13.out.2.2.1 rfl
  have f_w0_0 := cell_at (o := 0) N13.out.2.2.2.1 rfl
  have f_w0_1 := cell_at (o := 1) N13.out.2.2.2.1 rfl
  have f_x0_0 := cell_at (o := 0) N13.out.2.2.2.2.2.1 rfl
  have f_x0_1 := cell_at (o := 1) N13.out.2.2.2.2.2.1 rfl
  have f_x0_2 := cell_at (o := 2) N13.out.2.2.2.2.2.1 rfl
  have f_x0_3 := cell_at (o := 3) N13.out.2.2.2.2.2.1 rfl
  have f_x1_0 := cell_at (o := 0) N13.out.2.2.2.2.2.2.2.2.1 rfl
  have f_x1_1 := cell_at (o := 1) N13.out.2.2.2.2.2.2.2.2.1 rfl
  have f_g_0 := cell_at (o := 0) N13.out.2.2.2.2.2.2.2.2.2.2.2.1 rfl
  have f_g_1 := cell_at (o := 1) N13.out.2.2.2.2.2.2.2.2.2.2.2.1 rfl
  go_wp2_with fail
  go_ret
  exact ⟨rfl, N13.out.1⟩
end Go.Proofs.YtplkmffoldbinaaGreat
