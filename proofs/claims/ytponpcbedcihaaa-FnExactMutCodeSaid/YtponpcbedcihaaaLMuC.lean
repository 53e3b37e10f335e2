import Derived.Test.YtponpcbedcihaaaMu3
import Derived.Deep.RegionHeld3
import Derived.Deep.CutRange
namespace Go.Proofs.Ytponpcbedcihaaa
open Go.RowKit
set_option linter.unusedSimpArgs false
set_option maxRecDepth 100000 in
set_option maxHeartbeats 12800000 in
theorem lawMutCode (x0 : Tb) (x1 : MutV) (a0_1 : Option Addr) (c0_1 : Nat) (a0_2 : Option Addr) (c0_2 : Nat) (a1_2 : Option Addr) (c1_2 : Nat) (w : World) (l0_1 : (dColumnS x0.cols).le maxLen) (l0_2 : (dIntS x0.uq).le maxLen) (l1_2 : (dAtomS x1.val).le maxLen) (l0_0 : x0.nm.length ≤ maxLen) (l1_0 : x1.col.length ≤ maxLen) (l1_1 : iOK x1.fn) (r0_1 : Rd w (· < w.heap.size) (dColumnS x0.cols) (.slice a0_1 x0.cols.length c0_1)) (r0_2 : Rd w (· < w.heap.size) (dIntS x0.uq) (.slice a0_2 x0.uq.length c0_2)) (r1_2 : Rd w (· < w.heap.size) (dAtomS x1.val) (.slice a1_2 x1.val.length c1_2)) :
    Calls Try.prog 3 #[.agg #[.string ⟨x0.nm.toArray⟩, .slice a0_1 x0.cols.length c0_1, .slice a0_2 x0.uq.length c0_2, .bool x0.rt], .agg #[.string ⟨x1.col.toArray⟩, .int .i64 x1.fn, .slice a1_2 x1.val.length c1_2]] w fun e w' => e = .returned (.bool true) ∧ Below w.heap.size w w' := by
  have HL0_1 := Lib.hid l0_1
  have HL0_2 := Lib.hid l0_2
  have HO0 : Hid (∀ j, j < 4 → (dTable x0 j).le maxLen) := fun j hj => by
    rcases (by omega : j = 0 ∨ j = 1 ∨ j = 2 ∨ j = 3) with rfl | rfl | rfl | rfl
    · exact l0_0
    · exact l0_1
    · exact l0_2
    · exact trivial
  have RA0_1 : Hid (∀ W, Below w.heap.size w W → Rd W (· < w.heap.size) (dColumnS x0.cols) (.slice a0_1 x0.cols.length c0_1)) := fun W h => Rd.same (fun b hb => h.block b hb) (fun _ h => h) _ _ r0_1
  have RA0_2 : Hid (∀ W, Below w.heap.size w W → Rd W (· < w.heap.size) (dIntS x0.uq) (.slice a0_2 x0.uq.length c0_2)) := fun W h => Rd.same (fun b hb => h.block b hb) (fun _ h => h) _ _ r0_2
  have HL1_2 := Lib.hid l1_2
  have HO1 : Hid (∀ j, j < 3 → (dMut x1 j).le maxLen) := fun j hj => by
    rcases (by omega : j = 0 ∨ j = 1 ∨ j = 2) with rfl | rfl | rfl
    · exact l1_0
    · exact l1_1
    · exact l1_2
  have RA1_2 : Hid (∀ W, Below w.heap.size w W → Rd W (· < w.heap.size) (dAtomS x1.val) (.slice a1_2 x1.val.length c1_2)) := fun W h => Rd.same (fun b hb => h.block b hb) (fun _ h => h) _ _ r1_2
  have ALAT : Hid (∀ W W', (Below w.heap.size w W ∧ W.heap[w.heap.size]? = some (.cells #[.string ⟨x0.nm.toArray⟩, .slice a0_1 x0.cols.length c0_1, .slice a0_2 x0.uq.length c0_2, .bool x0.rt] 25) ∧ W.heap[w.heap.size + 1]? = some (.cells #[.string ⟨x1.col.toArray⟩, .int .i64 x1.fn, .slice a1_2 x1.val.length c1_2] 28)) → Below W.heap.size W W' → (Below w.heap.size w W' ∧ W'.heap[w.heap.size]? = some (.cells #[.string ⟨x0.nm.toArray⟩, .slice a0_1 x0.cols.length c0_1, .slice a0_2 x0.uq.length c0_2, .bool x0.rt] 25) ∧ W'.heap[w.heap.size + 1]? = some (.cells #[.string ⟨x1.col.toArray⟩, .int .i64 x1.fn, .slice a1_2 x1.val.length c1_2] 28))) := fun W W' h hB => ⟨h.1.trans (hB.mono h.1.size), heap_keptD h.2.1 hB, heap_keptD h.2.2 hB⟩
  have A0 : Hid (Below w.heap.size w ((w.alloc (.cells #[.string ⟨x0.nm.toArray⟩, .slice a0_1 x0.cols.length c0_1, .slice a0_2 x0.uq.length c0_2, .bool x0.rt] 25)).alloc (.cells #[.string ⟨x1.col.toArray⟩, .int .i64 x1.fn, .slice a1_2 x1.val.length c1_2] 28)) ∧ ((w.alloc (.cells #[.string ⟨x0.nm.toArray⟩, .slice a0_1 x0.cols.length c0_1, .slice a0_2 x0.uq.length c0_2, .bool x0.rt] 25)).alloc (.cells #[.string ⟨x1.col.toArray⟩, .int .i64 x1.fn, .slice a1_2 x1.val.length c1_2] 28)).heap[w.heap.size]? = some (.cells #[.string ⟨x0.nm.toArray⟩, .slice a0_1 x0.cols.length c0_1, .slice a0_2 x0.uq.length c0_2, .bool x0.rt] 25) ∧ ((w.alloc (.cells #[.string ⟨x0.nm.toArray⟩, .slice a0_1 x0.cols.length c0_1, .slice a0_2 x0.uq.length c0_2, .bool x0.rt] 25)).alloc (.cells #[.string ⟨x1.col.toArray⟩, .int .i64 x1.fn, .slice a1_2 x1.val.length c1_2] 28)).heap[w.heap.size + 1]? = some (.cells #[.string ⟨x1.col.toArray⟩, .int .i64 x1.fn, .slice a1_2 x1.val.length c1_2] 28)) := by
    refine ⟨(below_allocD _ _).trans ((below_allocD _ _).mono (by simp)), heap_keptD (heap_newD _ _) (below_allocD _ _), ?_⟩
    have h := heap_newD (w.alloc (.cells #[.string ⟨x0.nm.toArray⟩, .slice a0_1 x0.cols.length c0_1, .slice a0_2 x0.uq.length c0_2, .bool x0.rt] 25)) (.cells #[.string ⟨x1.col.toArray⟩, .int .i64 x1.fn, .slice a1_2 x1.val.length c1_2] 28)
    rw [size_allocD] at h
    exact h
  clear l0_1 r0_1 l0_2 r0_2 l1_2 r1_2 l1_1
  have x0_0 := cell_at (o := 0) A0.out.2.1 rfl
  have x0_1 := cell_at (o := 1) A0.out.2.1 rfl
  have x0_2 := cell_at (o := 2) A0.out.2.1 rfl
  have x0_3 := cell_at (o := 3) A0.out.2.1 rfl
  have x1_0 := cell_at (o := 0) A0.out.2.2 rfl
  have x1_1 := cell_at (o := 1) A0.out.2.2 rfl
  have x1_2 := cell_at (o := 2) A0.out.2.2 rfl
  go_enter Try.func3, Try.ntmps3
  go_wp2_with fail
  have bl : Hid ((0 : Int) ≤ 1048576 ∧ (1048576 : Int) ≤ 1048576) := by show _ ∧ _; omega
  refine (szDTable x0 a0_1 c0_1 a0_2 c0_2 1048576 _ _ bl.out.1 bl.out.2 HO0.out (RA0_1.out _ A0.out.1) (RA0_2.out _ A0.out.1)).mono ?_
  rintro e ws0 ⟨rfl, hB⟩
  have AS0 := Lib.hid (ALAT.out _ _ A0.out hB)
  clear hB A0 x0_0 x0_1 x0_2 x0_3 x1_0 x1_1 x1_2
  have x0_0 := cell_at (o := 0) AS0.out.2.1 rfl
  have x0_1 := cell_at (o := 1) AS0.out.2.1 rfl
  have x0_2 := cell_at (o := 2) AS0.out.2.1 rfl
  have x0_3 := cell_at (o := 3) AS0.out.2.1 rfl
  have x1_0 := cell_at (o := 0) AS0.out.2.2 rfl
  have x1_1 := cell_at (o := 1) AS0.out.2.2 rfl
  have x1_2 := cell_at (o := 2) AS0.out.2.2 rfl
  by_cases hz0 : (1048576 : Int) - (szT 4 (dTable x0) : Int) < 0
  case pos =>
    rw [less_no hz0]
    go_wp2_with fail
    go_ret
    exact ⟨rfl, AS0.out.1⟩
  rw [less_yes (by omega)]
  obtain ⟨L0, hL0⟩ : ∃ L0 : Int, L0 = 1048576 - (szT 4 (dTable x0) : Int) := ⟨_, rfl⟩
  rw [← hL0]
  have dL0 : decide (L0 < 0) = false := decide_eq_false (by omega)
  have HZ0 : Hid (szT 4 (dTable x0) ≤ 1048576) := by have := bl.out; show _ ≤ _; omega
  have b2 : Hid (0 ≤ L0 ∧ L0 ≤ 1048576) := by have := bl.out; show _ ∧ _; omega
  clear hz0 hL0 bl
  have bl := b2
  clear b2
  go_wp2_with fail
  refine (szDMut x1 a1_2 c1_2 L0 _ _ bl.out.1 bl.out.2 HO1.out (RA1_2.out _ AS0.out.1)).mono ?_
  rintro e ws1 ⟨rfl, hB⟩
  have AS1 := Lib.hid (ALAT.out _ _ AS0.out hB)
  clear hB AS0 x0_0 x0_1 x0_2 x0_3 x1_0 x1_1 x1_2
  have x0_0 := cell_at (o := 0) AS1.out.2.1 rfl
  have x0_1 := cell_at (o := 1) AS1.out.2.1 rfl
  have x0_2 := cell_at (o := 2) AS1.out.2.1 rfl
  have x0_3 := cell_at (o := 3) AS1.out.2.1 rfl
  have x1_0 := cell_at (o := 0) AS1.out.2.2 rfl
  have x1_1 := cell_at (o := 1) AS1.out.2.2 rfl
  have x1_2 := cell_at (o := 2) AS1.out.2.2 rfl
  by_cases hz1 : L0 - (szT 3 (dMut x1) : Int) < 0
  case pos =>
    rw [less_no hz1]
    go_wp2_with fail
    go_ret
    exact ⟨rfl, AS1.out.1⟩
  rw [less_yes (by omega)]
  obtain ⟨L1, hL1⟩ : ∃ L1 : Int, L1 = L0 - (szT 3 (dMut x1) : Int) := ⟨_, rfl⟩
  rw [← hL1]
  have dL1 : decide (L1 < 0) = false := decide_eq_false (by omega)
  have HZ1 : Hid (szT 3 (dMut x1) ≤ 1048576) := by have := bl.out; show _ ≤ _; omega
  have b2 : Hid (0 ≤ L1 ∧ L1 ≤ 1048576) := by have := bl.out; show _ ∧ _; omega
  clear hz1 hL1 bl
  have bl := b2
  clear b2
  go_wp2_with fail
  have HK0 : Hid (∀ j, j < 4 → (dTable x0 j).le 1048576) := fun j hj => D.le_of_sz _ (HO0.out j hj) (Nat.le_trans (sumN_le (g := fun j => (dTable x0 j).sz) hj) HZ0.out)
  have HK1 : Hid (∀ j, j < 3 → (dMut x1 j).le 1048576) := fun j hj => D.le_of_sz _ (HO1.out j hj) (Nat.le_trans (sumN_le (g := fun j => (dMut x1 j).sz) hj) HZ1.out)
  have TO0 : Hid (∀ W, (Below w.heap.size w W ∧ W.heap[w.heap.size]? = some (.cells #[.string ⟨x0.nm.toArray⟩, .slice a0_1 x0.cols.length c0_1, .slice a0_2 x0.uq.length c0_2, .bool x0.rt] 25) ∧ W.heap[w.heap.size + 1]? = some (.cells #[.string ⟨x1.col.toArray⟩, .int .i64 x1.fn, .slice a1_2 x1.val.length c1_2] 28)) → Calls Try.prog 7 #[.agg #[.string ⟨x0.nm.toArray⟩, .slice a0_1 x0.cols.length c0_1, .slice a0_2 x0.uq.length c0_2, .bool x0.rt]] W fun e w' => ∃ p1 : Nat, ∃ p2 : Nat, e = .returned (.agg #[.string ⟨x0.nm.toArray⟩, .slice (some ⟨p1, 0, none⟩) x0.cols.length x0.cols.length, .slice (some ⟨p2, 0, none⟩) x0.uq.length x0.uq.length, .bool x0.rt]) ∧ Owns w' 4 (dTable x0) (vat [.string ⟨x0.nm.toArray⟩, .slice (some ⟨p1, 0, none⟩) x0.cols.length x0.cols.length, .slice (some ⟨p2, 0, none⟩) x0.uq.length x0.uq.length, .bool x0.rt]) (fun c => W.heap.size ≤ c ∧ c < w'.heap.size) ∧ Below W.heap.size W w' ∧ (Below w.heap.size w w' ∧ w'.heap[w.heap.size]? = some (.cells #[.string ⟨x0.nm.toArray⟩, .slice a0_1 x0.cols.length c0_1, .slice a0_2 x0.uq.length c0_2, .bool x0.rt] 25) ∧ w'.heap[w.heap.size + 1]? = some (.cells #[.string ⟨x1.col.toArray⟩, .int .i64 x1.fn, .slice a1_2 x1.val.length c1_2] 28))) := fun W h => (toDTable x0 a0_1 c0_1 a0_2 c0_2 _ W HK0.out (RA0_1.out W h.1) (RA0_2.out W h.1)).mono (fun e w' ⟨p1, p2, he, ho, hB⟩ => ⟨p1, p2, he, ho, hB, ALAT.out _ _ h hB⟩)
  have TO1 : Hid (∀ W, (Below w.heap.size w W ∧ W.heap[w.heap.size]? = some (.cells #[.string ⟨x0.nm.toArray⟩, .slice a0_1 x0.cols.length c0_1, .slice a0_2 x0.uq.length c0_2, .bool x0.rt] 25) ∧ W.heap[w.heap.size + 1]? = some (.cells #[.string ⟨x1.col.toArray⟩, .int .i64 x1.fn, .slice a1_2 x1.val.length c1_2] 28)) → Calls Try.prog 8 #[.agg #[.string ⟨x1.col.toArray⟩, .int .i64 x1.fn, .slice a1_2 x1.val.length c1_2]] W fun e w' => ∃ p2 : Nat, e = .returned (.agg #[.string ⟨x1.col.toArray⟩, .int .i64 x1.fn, .slice (some ⟨p2, 0, none⟩) x1.val.length x1.val.length]) ∧ Owns w' 3 (dMut x1) (vat [.string ⟨x1.col.toArray⟩, .int .i64 x1.fn, .slice (some ⟨p2, 0, none⟩) x1.val.length x1.val.length]) (fun c => W.heap.size ≤ c ∧ c < w'.heap.size) ∧ Below W.heap.size W w' ∧ (Below w.heap.size w w' ∧ w'.heap[w.heap.size]? = some (.cells #[.string ⟨x0.nm.toArray⟩, .slice a0_1 x0.cols.length c0_1, .slice a0_2 x0.uq.length c0_2, .bool x0.rt] 25) ∧ w'.heap[w.heap.size + 1]? = some (.cells #[.string ⟨x1.col.toArray⟩, .int .i64 x1.fn, .slice a1_2 x1.val.length c1_2] 28))) := fun W h => (toDMut x1 a1_2 c1_2 _ W HK1.out (RA1_2.out W h.1)).mono (fun e w' ⟨p2, he, ho, hB⟩ => ⟨p2, he, ho, hB, ALAT.out _ _ h hB⟩)
  have CS : Hid (∀ (W : World) (b0_1 : Option Addr) (e0_1 : Nat) (b0_2 : Option Addr) (e0_2 : Nat) (b1_2 : Option Addr) (e1_2 : Nat), Rd W (fun _ => True) (dColumnS x0.cols) (.slice b0_1 x0.cols.length e0_1) → Rd W (fun _ => True) (dIntS x0.uq) (.slice b0_2 x0.uq.length e0_2) → Rd W (fun _ => True) (dAtomS x1.val) (.slice b1_2 x1.val.length e1_2) → Calls Try.prog 6 #[.agg #[.string ⟨x0.nm.toArray⟩, .slice b0_1 x0.cols.length e0_1, .slice b0_2 x0.uq.length e0_2, .bool x0.rt], .agg #[.string ⟨x1.col.toArray⟩, .int .i64 x1.fn, .slice b1_2 x1.val.length e1_2]] W fun e w' => e = .returned (.tuple #[.int .i64 (mcR x0 x1), .int .i64 (mcC x0 x1)]) ∧ Below W.heap.size W w') := fun W b0_1 e0_1 b0_2 e0_2 b1_2 e1_2 h0_1 h0_2 h1_2 => mutCodeOfS x0 x1 b0_1 e0_1 b0_2 e0_2 b1_2 e1_2 _ W.heap.size W (le_table (HO0.out 0 (by omega)) HL0_1.out HL0_2.out) (HO1.out 0 (by omega)) (le_atoms HL1_2.out).1 (le_atoms HL1_2.out).2 (Rd.hasT h0_1 h0_2) (Nat.le_refl _) h1_2.lt.ats
  have CI : Hid (∀ (W : World) (b0_1 : Option Addr) (e0_1 : Nat) (b0_2 : Option Addr) (e0_2 : Nat) (b1_2 : Option Addr) (e1_2 : Nat), Rd W (fun _ => True) (dColumnS x0.cols) (.slice b0_1 x0.cols.length e0_1) → Rd W (fun _ => True) (dIntS x0.uq) (.slice b0_2 x0.uq.length e0_2) → Rd W (fun _ => True) (dAtomS x1.val) (.slice b1_2 x1.val.length e1_2) → Calls Try.prog 9 #[.agg #[.string ⟨x0.nm.toArray⟩, .slice b0_1 x0.cols.length e0_1, .slice b0_2 x0.uq.length e0_2, .bool x0.rt], .agg #[.string ⟨x1.col.toArray⟩, .int .i64 x1.fn, .slice b1_2 x1.val.length e1_2]] W fun e w' => e = .returned (.tuple #[.int .i64 (mcR x0 x1), .int .i64 (mcC x0 x1)]) ∧ Below W.heap.size W w') := fun W b0_1 e0_1 b0_2 e0_2 b1_2 e1_2 h0_1 h0_2 h1_2 => mutCodeOfI x0 x1 b0_1 e0_1 b0_2 e0_2 b1_2 e1_2 _ W.heap.size W (le_table (HO0.out 0 (by omega)) HL0_1.out HL0_2.out) (HO1.out 0 (by omega)) (le_atoms HL1_2.out).1 (le_atoms HL1_2.out).2 (Rd.hasT h0_1 h0_2) (Nat.le_refl _) h1_2.lt.ats
  have nq0 := bne_self_eq_false (mcR x0 x1)
  generalize (mcR x0 x1) = R0 at *
  have nq1 := bne_self_eq_false (mcC x0 x1)
  generalize (mcC x0 x1) = R1 at *
  have EQ0 : Hid (∀ (W : World) (b1 : Option Addr) (e1 : Nat) (f1 : Option Addr) (g1 : Nat) (b2 : Option Addr) (e2 : Nat) (f2 : Option Addr) (g2 : Nat), Rd W (fun _ => True) (dColumnS x0.cols) (.slice b1 x0.cols.length e1) → Rd W (fun _ => True) (dIntS x0.uq) (.slice b2 x0.uq.length e2) → Rd W (fun _ => True) (dColumnS x0.cols) (.slice f1 x0.cols.length g1) → Rd W (fun _ => True) (dIntS x0.uq) (.slice f2 x0.uq.length g2) → Calls Try.prog 10 #[.agg #[.string ⟨x0.nm.toArray⟩, .slice b1 x0.cols.length e1, .slice b2 x0.uq.length e2, .bool x0.rt], .agg #[.string ⟨x0.nm.toArray⟩, .slice f1 x0.cols.length g1, .slice f2 x0.uq.length g2, .bool x0.rt]] W fun e w' => e = .returned (.bool true) ∧ Below W.heap.size W w') := fun W b1 e1 f1 g1 b2 e2 f2 g2 h1 h2 i1 i2 => eqDTable x0 b1 e1 b2 e2 f1 g1 f2 g2 _ _ W HO0.out h1 h2 i1 i2
  have EQ1 : Hid (∀ (W : World) (b2 : Option Addr) (e2 : Nat) (f2 : Option Addr) (g2 : Nat), Rd W (fun _ => True) (dAtomS x1.val) (.slice b2 x1.val.length e2) → Rd W (fun _ => True) (dAtomS x1.val) (.slice f2 x1.val.length g2) → Calls Try.prog 11 #[.agg #[.string ⟨x1.col.toArray⟩, .int .i64 x1.fn, .slice b2 x1.val.length e2], .agg #[.string ⟨x1.col.toArray⟩, .int .i64 x1.fn, .slice f2 x1.val.length g2]] W fun e w' => e = .returned (.bool true) ∧ Below W.heap.size W w') := fun W b2 e2 f2 g2 h2 i2 => eqDMut x1 b2 e2 f2 g2 _ _ W HO1.out h2 i2
  have CE : Hid (∀ W, (Below w.heap.size w W ∧ W.heap[w.heap.size]? = some (.cells #[.string ⟨x0.nm.toArray⟩, .slice a0_1 x0.cols.length c0_1, .slice a0_2 x0.uq.length c0_2, .bool x0.rt] 25) ∧ W.heap[w.heap.size + 1]? = some (.cells #[.string ⟨x1.col.toArray⟩, .int .i64 x1.fn, .slice a1_2 x1.val.length c1_2] 28)) → (W.cell? ⟨w.heap.size, 0, none⟩ = some (.string ⟨x0.nm.toArray⟩) ∧ W.cell? ⟨w.heap.size, 1, none⟩ = some (.slice a0_1 x0.cols.length c0_1) ∧ W.cell? ⟨w.heap.size, 2, none⟩ = some (.slice a0_2 x0.uq.length c0_2) ∧ W.cell? ⟨w.heap.size, 3, none⟩ = some (.bool x0.rt) ∧ W.cell? ⟨w.heap.size + 1, 0, none⟩ = some (.string ⟨x1.col.toArray⟩) ∧ W.cell? ⟨w.heap.size + 1, 1, none⟩ = some (.int .i64 x1.fn) ∧ W.cell? ⟨w.heap.size + 1, 2, none⟩ = some (.slice a1_2 x1.val.length c1_2))) := fun W h => ⟨cell_at (o := 0) h.2.1 rfl, cell_at (o := 1) h.2.1 rfl, cell_at (o := 2) h.2.1 rfl, cell_at (o := 3) h.2.1 rfl, cell_at (o := 0) h.2.2 rfl, cell_at (o := 1) h.2.2 rfl, cell_at (o := 2) h.2.2 rfl⟩
  have hx := AS1.out
  refine wp_region_held_drew (S := (fun W => W.cell? ⟨w.heap.size, 0, none⟩ = some (.string ⟨x0.nm.toArray⟩) ∧ W.cell? ⟨w.heap.size, 1, none⟩ = some (.slice a0_1 x0.cols.length c0_1) ∧ W.cell? ⟨w.heap.size, 2, none⟩ = some (.slice a0_2 x0.uq.length c0_2) ∧ W.cell? ⟨w.heap.size, 3, none⟩ = some (.bool x0.rt) ∧ W.cell? ⟨w.heap.size + 1, 0, none⟩ = some (.string ⟨x1.col.toArray⟩) ∧ W.cell? ⟨w.heap.size + 1, 1, none⟩ = some (.int .i64 x1.fn) ∧ W.cell? ⟨w.heap.size + 1, 2, none⟩ = some (.slice a1_2 x1.val.length c1_2))) (by kernel_rfl) ?_ (fun hHeld => ?_)
  · (first | exact CE.out _ hx | exact CE.out _ (ALAT.out _ _ hx (Below.refl _ _).drew))
  refine wpAnyH_take (i := 0) (v := ?_) rfl (by kernel_rfl) (by kernel_rfl) (by kernel_rfl) (fun _ _ _ h => h) (Or.inl ⟨by kernel_rfl, ?_⟩) (by assumption) ?_
  rotate_left
  · (intro wS hSw; (try dsimp only at hSw); go_simp <;> with_reducible rfl)
  try simp only [Act.put, List.getElem_toArray, List.getElem_cons_succ, List.getElem_cons_zero, List.setIfInBounds_toArray, List.set_cons_zero, List.set_cons_succ]
  refine wpAnyH_take (i := 2) (v := ?_) rfl (by kernel_rfl) (by kernel_rfl) (by kernel_rfl) (fun _ _ _ h => h) (Or.inl ⟨by kernel_rfl, ?_⟩) (by assumption) ?_
  rotate_left
  · (intro wS hSw; (try dsimp only at hSw); go_simp <;> with_reducible rfl)
  try simp only [Act.put, List.getElem_toArray, List.getElem_cons_succ, List.getElem_cons_zero, List.setIfInBounds_toArray, List.set_cons_zero, List.set_cons_succ]
  refine wpAnyH_ready (rs := [1]) (by kernel_rfl) (by simp) (AllReadyH.cons rfl (fun K hK => ?_) AllReadyH.nil)
  go_simp
  (go_at_call 7; refine (TO0.out _ (by first | exact hx | exact ALAT.out _ _ hx (Below.refl _ _).drew)).mono ?_; rintro e wt0 ⟨p0_1, p0_2, rfl, ho0, hB0, hA0⟩; clear hx; have hx := hA0; clear hA0; have RC0_1 : Hid (Rd _ (fun _ => True) (dColumnS x0.cols) (.slice (some ⟨p0_1, 0, none⟩) x0.cols.length x0.cols.length)) := (Owns.one ho0 (j := 1) (by omega)).rd'.any; have RC0_2 : Hid (Rd _ (fun _ => True) (dIntS x0.uq) (.slice (some ⟨p0_2, 0, none⟩) x0.uq.length x0.uq.length)) := (Owns.one ho0 (j := 2) (by omega)).rd'.any; clear ho0; clear hB0)
  refine hK.out _ _ ?_ (fun hHeld => ?_)
  · (first | exact CE.out _ hx | exact CE.out _ (ALAT.out _ _ hx (Below.refl _ _).drew))
  clear hK K
  try simp only [Act.put, List.getElem_toArray, List.getElem_cons_succ, List.getElem_cons_zero, List.setIfInBounds_toArray, List.set_cons_zero, List.set_cons_succ]
  refine wpAnyH_ready (rs := [3]) (by kernel_rfl) (by simp) (AllReadyH.cons rfl (fun K hK => ?_) AllReadyH.nil)
  go_simp
  (go_at_call 8; refine (TO1.out _ (by first | exact hx | exact ALAT.out _ _ hx (Below.refl _ _).drew)).mono ?_; rintro e wt1 ⟨p1_2, rfl, ho1, hB1, hA1⟩; clear hx; have hx := hA1; clear hA1; have RC1_2 : Hid (Rd _ (fun _ => True) (dAtomS x1.val) (.slice (some ⟨p1_2, 0, none⟩) x1.val.length x1.val.length)) := (Owns.one ho1 (j := 2) (by omega)).rd'.any; have RE0_1 := Lib.hid (Rd.later RC0_1.out (by first | exact hB1 | exact (Below.refl _ _).drew.trans hB1)); clear RC0_1; have RC0_1 := RE0_1; clear RE0_1; have RE0_2 := Lib.hid (Rd.later RC0_2.out (by first | exact hB1 | exact (Below.refl _ _).drew.trans hB1)); clear RC0_2; have RC0_2 := RE0_2; clear RE0_2; clear ho1; clear hB1)
  refine hK.out _ _ ?_ (fun hHeld => ?_)
  · (first | exact CE.out _ hx | exact CE.out _ (ALAT.out _ _ hx (Below.refl _ _).drew))
  clear hK K
  try simp only [Act.put, List.getElem_toArray, List.getElem_cons_succ, List.getElem_cons_zero, List.setIfInBounds_toArray, List.set_cons_zero, List.set_cons_succ]
  refine wpAnyH_ready (rs := [4]) (by kernel_rfl) (by simp) (AllReadyH.cons rfl (fun K hK => ?_) AllReadyH.nil)
  go_simp
  (go_at_call 6; refine (CS.out _ _ _ _ _ _ _ (by first | exact RC0_1.out | exact RC0_1.out.later (Below.refl _ _).drew) (by first | exact RC0_2.out | exact RC0_2.out.later (Below.refl _ _).drew) (by first | exact RC1_2.out | exact RC1_2.out.later (Below.refl _ _).drew)).mono ?_; rintro e w2 ⟨rfl, hB2⟩; have h2 := ALAT.out _ _ hx (by first | exact hB2 | exact (Below.refl _ _).drew.trans hB2); clear hx hB2; have hx := h2; clear h2)
  refine hK.out _ _ ?_ (fun hHeld => ?_)
  · (first | exact CE.out _ hx | exact CE.out _ (ALAT.out _ _ hx (Below.refl _ _).drew))
  clear hK K
  try simp only [Act.put, List.getElem_toArray, List.getElem_cons_succ, List.getElem_cons_zero, List.setIfInBounds_toArray, List.set_cons_zero, List.set_cons_succ]
  refine wpAnyH_take (i := 5) (v := ?_) rfl (by kernel_rfl) (by kernel_rfl) (by kernel_rfl) (fun _ _ _ h => h) (Or.inl ⟨by kernel_rfl, ?_⟩) (by assumption) ?_
  rotate_left
  · (intro wS hSw; (try dsimp only at hSw); go_simp <;> with_reducible rfl)
  try simp only [Act.put, List.getElem_toArray, List.getElem_cons_succ, List.getElem_cons_zero, List.setIfInBounds_toArray, List.set_cons_zero, List.set_cons_succ]
  refine wpAnyH_take (i := 6) (v := ?_) rfl (by kernel_rfl) (by kernel_rfl) (by kernel_rfl) (fun _ _ _ h => h) (Or.inl ⟨by kernel_rfl, ?_⟩) (by assumption) ?_
  rotate_left
  · (intro wS hSw; (try dsimp only at hSw); go_simp <;> with_reducible rfl)
  try simp only [Act.put, List.getElem_toArray, List.getElem_cons_succ, List.getElem_cons_zero, List.setIfInBounds_toArray, List.set_cons_zero, List.set_cons_succ]
  refine wpAnyH_take (i := 7) (v := ?_) rfl (by kernel_rfl) (by kernel_rfl) (by kernel_rfl) (fun _ _ _ h => h) (Or.inl ⟨by kernel_rfl, ?_⟩) (by assumption) ?_
  rotate_left
  · (intro wS hSw; (try dsimp only at hSw); go_simp <;> with_reducible rfl)
  try simp only [Act.put, List.getElem_toArray, List.getElem_cons_succ, List.getElem_cons_zero, List.setIfInBounds_toArray, List.set_cons_zero, List.set_cons_succ]
  refine wpAnyH_take (i := 8) (v := ?_) rfl (by kernel_rfl) (by kernel_rfl) (by kernel_rfl) (fun _ _ _ h => h) (Or.inl ⟨by kernel_rfl, ?_⟩) (by assumption) ?_
  rotate_left
  · (intro wS hSw; (try dsimp only at hSw); go_simp <;> with_reducible rfl)
  try simp only [Act.put, List.getElem_toArray, List.getElem_cons_succ, List.getElem_cons_zero, List.setIfInBounds_toArray, List.set_cons_zero, List.set_cons_succ]
  refine wpAnyH_take (i := 9) (v := ?_) rfl (by kernel_rfl) (by kernel_rfl) (by kernel_rfl) (fun _ _ _ h => h) (Or.inl ⟨by kernel_rfl, ?_⟩) (by assumption) ?_
  rotate_left
  · (intro wS hSw; (try dsimp only at hSw); go_simp <;> with_reducible rfl)
  try simp only [Act.put, List.getElem_toArray, List.getElem_cons_succ, List.getElem_cons_zero, List.setIfInBounds_toArray, List.set_cons_zero, List.set_cons_succ]
  refine wpAnyH_done (by kernel_rfl) ?_ _
  clear AS1
  have A2 := Lib.hid hx
  clear hx x0_0 x0_1 x0_2 x0_3 x1_0 x1_1 x1_2 RC0_1 RC0_2 RC1_2
  have x0_0 := cell_at (o := 0) A2.out.2.1 rfl
  have x0_1 := cell_at (o := 1) A2.out.2.1 rfl
  have x0_2 := cell_at (o := 2) A2.out.2.1 rfl
  have x0_3 := cell_at (o := 3) A2.out.2.1 rfl
  have x1_0 := cell_at (o := 0) A2.out.2.2 rfl
  have x1_1 := cell_at (o := 1) A2.out.2.2 rfl
  have x1_2 := cell_at (o := 2) A2.out.2.2 rfl
  go_wp2_with fail
  refine (TO0.out _ (by first | exact A2.out | exact ALAT.out _ _ A2.out (Below.refl _ _).drew)).mono ?_
  rintro e wx0 ⟨p0_1, p0_2, rfl, ho, hB, hA⟩
  have XS0L : Hid (∀ W W', (Below w.heap.size w W ∧ W.heap[w.heap.size]? = some (.cells #[.string ⟨x0.nm.toArray⟩, .slice a0_1 x0.cols.length c0_1, .slice a0_2 x0.uq.length c0_2, .bool x0.rt] 25) ∧ W.heap[w.heap.size + 1]? = some (.cells #[.string ⟨x1.col.toArray⟩, .int .i64 x1.fn, .slice a1_2 x1.val.length c1_2] 28) ∧ W.heap[wx0.heap.size]? = some (.cells #[.string ⟨x0.nm.toArray⟩, .slice (some ⟨p0_1, 0, none⟩) x0.cols.length x0.cols.length, .slice (some ⟨p0_2, 0, none⟩) x0.uq.length x0.uq.length, .bool x0.rt] 35) ∧ Rd W (fun _ => True) (dColumnS x0.cols) (.slice (some ⟨p0_1, 0, none⟩) x0.cols.length x0.cols.length) ∧ Rd W (fun _ => True) (dIntS x0.uq) (.slice (some ⟨p0_2, 0, none⟩) x0.uq.length x0.uq.length)) → Below W.heap.size W W' → (Below w.heap.size w W' ∧ W'.heap[w.heap.size]? = some (.cells #[.string ⟨x0.nm.toArray⟩, .slice a0_1 x0.cols.length c0_1, .slice a0_2 x0.uq.length c0_2, .bool x0.rt] 25) ∧ W'.heap[w.heap.size + 1]? = some (.cells #[.string ⟨x1.col.toArray⟩, .int .i64 x1.fn, .slice a1_2 x1.val.length c1_2] 28) ∧ W'.heap[wx0.heap.size]? = some (.cells #[.string ⟨x0.nm.toArray⟩, .slice (some ⟨p0_1, 0, none⟩) x0.cols.length x0.cols.length, .slice (some ⟨p0_2, 0, none⟩) x0.uq.length x0.uq.length, .bool x0.rt] 35) ∧ Rd W' (fun _ => True) (dColumnS x0.cols) (.slice (some ⟨p0_1, 0, none⟩) x0.cols.length x0.cols.length) ∧ Rd W' (fun _ => True) (dIntS x0.uq) (.slice (some ⟨p0_2, 0, none⟩) x0.uq.length x0.uq.length))) := fun W W' h hB => ⟨h.1.trans (hB.mono h.1.size), heap_keptD h.2.1 hB, heap_keptD h.2.2.1 hB, heap_keptD h.2.2.2.1 hB, h.2.2.2.2.1.later hB, h.2.2.2.2.2.later hB⟩
  have Y0 : Hid (Below w.heap.size w (wx0.alloc (.cells #[.string ⟨x0.nm.toArray⟩, .slice (some ⟨p0_1, 0, none⟩) x0.cols.length x0.cols.length, .slice (some ⟨p0_2, 0, none⟩) x0.uq.length x0.uq.length, .bool x0.rt] 35)) ∧ (wx0.alloc (.cells #[.string ⟨x0.nm.toArray⟩, .slice (some ⟨p0_1, 0, none⟩) x0.cols.length x0.cols.length, .slice (some ⟨p0_2, 0, none⟩) x0.uq.length x0.uq.length, .bool x0.rt] 35)).heap[w.heap.size]? = some (.cells #[.string ⟨x0.nm.toArray⟩, .slice a0_1 x0.cols.length c0_1, .slice a0_2 x0.uq.length c0_2, .bool x0.rt] 25) ∧ (wx0.alloc (.cells #[.string ⟨x0.nm.toArray⟩, .slice (some ⟨p0_1, 0, none⟩) x0.cols.length x0.cols.length, .slice (some ⟨p0_2, 0, none⟩) x0.uq.length x0.uq.length, .bool x0.rt] 35)).heap[w.heap.size + 1]? = some (.cells #[.string ⟨x1.col.toArray⟩, .int .i64 x1.fn, .slice a1_2 x1.val.length c1_2] 28) ∧ (wx0.alloc (.cells #[.string ⟨x0.nm.toArray⟩, .slice (some ⟨p0_1, 0, none⟩) x0.cols.length x0.cols.length, .slice (some ⟨p0_2, 0, none⟩) x0.uq.length x0.uq.length, .bool x0.rt] 35)).heap[wx0.heap.size]? = some (.cells #[.string ⟨x0.nm.toArray⟩, .slice (some ⟨p0_1, 0, none⟩) x0.cols.length x0.cols.length, .slice (some ⟨p0_2, 0, none⟩) x0.uq.length x0.uq.length, .bool x0.rt] 35) ∧ Rd (wx0.alloc (.cells #[.string ⟨x0.nm.toArray⟩, .slice (some ⟨p0_1, 0, none⟩) x0.cols.length x0.cols.length, .slice (some ⟨p0_2, 0, none⟩) x0.uq.length x0.uq.length, .bool x0.rt] 35)) (fun _ => True) (dColumnS x0.cols) (.slice (some ⟨p0_1, 0, none⟩) x0.cols.length x0.cols.length) ∧ Rd (wx0.alloc (.cells #[.string ⟨x0.nm.toArray⟩, .slice (some ⟨p0_1, 0, none⟩) x0.cols.length x0.cols.length, .slice (some ⟨p0_2, 0, none⟩) x0.uq.length x0.uq.length, .bool x0.rt] 35)) (fun _ => True) (dIntS x0.uq) (.slice (some ⟨p0_2, 0, none⟩) x0.uq.length x0.uq.length)) := ⟨hA.1.trans ((below_allocD _ _).mono hA.1.size), heap_keptD hA.2.1 (below_allocD _ _), heap_keptD hA.2.2 (below_allocD _ _), heap_newD _ _, Rd.later ((Owns.one ho (j := 1) (by omega)).rd'.any) (below_allocD _ _), Rd.later ((Owns.one ho (j := 2) (by omega)).rd'.any) (below_allocD _ _)⟩
  clear hB hA ho A2 x0_0 x0_1 x0_2 x0_3 x1_0 x1_1 x1_2
  have x0_0 := cell_at (o := 0) Y0.out.2.1 rfl
  have x0_1 := cell_at (o := 1) Y0.out.2.1 rfl
  have x0_2 := cell_at (o := 2) Y0.out.2.1 rfl
  have x0_3 := cell_at (o := 3) Y0.out.2.1 rfl
  have x1_0 := cell_at (o := 0) Y0.out.2.2.1 rfl
  have x1_1 := cell_at (o := 1) Y0.out.2.2.1 rfl
  have x1_2 := cell_at (o := 2) Y0.out.2.2.1 rfl
  have y0_0 := cell_at (o := 0) Y0.out.2.2.2.1 rfl
  have y0_1 := cell_at (o := 1) Y0.out.2.2.2.1 rfl
  have y0_2 := cell_at (o := 2) Y0.out.2.2.2.1 rfl
  have y0_3 := cell_at (o := 3) Y0.out.2.2.2.1 rfl
  go_wp2_with fail
  refine (TO1.out _ ⟨Y0.out.1, Y0.out.2.1, Y0.out.2.2.1⟩).mono ?_
  rintro e wx1 ⟨p1_2, rfl, ho, hB, hA⟩
  have XO := XS0L.out _ _ Y0.out hB
  have XS1L : Hid (∀ W W', (Below w.heap.size w W ∧ W.heap[w.heap.size]? = some (.cells #[.string ⟨x0.nm.toArray⟩, .slice a0_1 x0.cols.length c0_1, .slice a0_2 x0.uq.length c0_2, .bool x0.rt] 25) ∧ W.heap[w.heap.size + 1]? = some (.cells #[.string ⟨x1.col.toArray⟩, .int .i64 x1.fn, .slice a1_2 x1.val.length c1_2] 28) ∧ W.heap[wx0.heap.size]? = some (.cells #[.string ⟨x0.nm.toArray⟩, .slice (some ⟨p0_1, 0, none⟩) x0.cols.length x0.cols.length, .slice (some ⟨p0_2, 0, none⟩) x0.uq.length x0.uq.length, .bool x0.rt] 35) ∧ Rd W (fun _ => True) (dColumnS x0.cols) (.slice (some ⟨p0_1, 0, none⟩) x0.cols.length x0.cols.length) ∧ Rd W (fun _ => True) (dIntS x0.uq) (.slice (some ⟨p0_2, 0, none⟩) x0.uq.length x0.uq.length) ∧ W.heap[wx1.heap.size]? = some (.cells #[.string ⟨x1.col.toArray⟩, .int .i64 x1.fn, .slice (some ⟨p1_2, 0, none⟩) x1.val.length x1.val.length] 39) ∧ Rd W (fun _ => True) (dAtomS x1.val) (.slice (some ⟨p1_2, 0, none⟩) x1.val.length x1.val.length)) → Below W.heap.size W W' → (Below w.heap.size w W' ∧ W'.heap[w.heap.size]? = some (.cells #[.string ⟨x0.nm.toArray⟩, .slice a0_1 x0.cols.length c0_1, .slice a0_2 x0.uq.length c0_2, .bool x0.rt] 25) ∧ W'.heap[w.heap.size + 1]? = some (.cells #[.string ⟨x1.col.toArray⟩, .int .i64 x1.fn, .slice a1_2 x1.val.length c1_2] 28) ∧ W'.heap[wx0.heap.size]? = some (.cells #[.string ⟨x0.nm.toArray⟩, .slice (some ⟨p0_1, 0, none⟩) x0.cols.length x0.cols.length, .slice (some ⟨p0_2, 0, none⟩) x0.uq.length x0.uq.length, .bool x0.rt] 35) ∧ Rd W' (fun _ => True) (dColumnS x0.cols) (.slice (some ⟨p0_1, 0, none⟩) x0.cols.length x0.cols.length) ∧ Rd W' (fun _ => True) (dIntS x0.uq) (.slice (some ⟨p0_2, 0, none⟩) x0.uq.length x0.uq.length) ∧ W'.heap[wx1.heap.size]? = some (.cells #[.string ⟨x1.col.toArray⟩, .int .i64 x1.fn, .slice (some ⟨p1_2, 0, none⟩) x1.val.length x1.val.length] 39) ∧ Rd W' (fun _ => True) (dAtomS x1.val) (.slice (some ⟨p1_2, 0, none⟩) x1.val.length x1.val.length))) := fun W W' h hB => ⟨h.1.trans (hB.mono h.1.size), heap_keptD h.2.1 hB, heap_keptD h.2.2.1 hB, heap_keptD h.2.2.2.1 hB, h.2.2.2.2.1.later hB, h.2.2.2.2.2.1.later hB, heap_keptD h.2.2.2.2.2.2.1 hB, h.2.2.2.2.2.2.2.later hB⟩
  have Y1 : Hid (Below w.heap.size w (wx1.alloc (.cells #[.string ⟨x1.col.toArray⟩, .int .i64 x1.fn, .slice (some ⟨p1_2, 0, none⟩) x1.val.length x1.val.length] 39)) ∧ (wx1.alloc (.cells #[.string ⟨x1.col.toArray⟩, .int .i64 x1.fn, .slice (some ⟨p1_2, 0, none⟩) x1.val.length x1.val.length] 39)).heap[w.heap.size]? = some (.cells #[.string ⟨x0.nm.toArray⟩, .slice a0_1 x0.cols.length c0_1, .slice a0_2 x0.uq.length c0_2, .bool x0.rt] 25) ∧ (wx1.alloc (.cells #[.string ⟨x1.col.toArray⟩, .int .i64 x1.fn, .slice (some ⟨p1_2, 0, none⟩) x1.val.length x1.val.length] 39)).heap[w.heap.size + 1]? = some (.cells #[.string ⟨x1.col.toArray⟩, .int .i64 x1.fn, .slice a1_2 x1.val.length c1_2] 28) ∧ (wx1.alloc (.cells #[.string ⟨x1.col.toArray⟩, .int .i64 x1.fn, .slice (some ⟨p1_2, 0, none⟩) x1.val.length x1.val.length] 39)).heap[wx0.heap.size]? = some (.cells #[.string ⟨x0.nm.toArray⟩, .slice (some ⟨p0_1, 0, none⟩) x0.cols.length x0.cols.length, .slice (some ⟨p0_2, 0, none⟩) x0.uq.length x0.uq.length, .bool x0.rt] 35) ∧ Rd (wx1.alloc (.cells #[.string ⟨x1.col.toArray⟩, .int .i64 x1.fn, .slice (some ⟨p1_2, 0, none⟩) x1.val.length x1.val.length] 39)) (fun _ => True) (dColumnS x0.cols) (.slice (some ⟨p0_1, 0, none⟩) x0.cols.length x0.cols.length) ∧ Rd (wx1.alloc (.cells #[.string ⟨x1.col.toArray⟩, .int .i64 x1.fn, .slice (some ⟨p1_2, 0, none⟩) x1.val.length x1.val.length] 39)) (fun _ => True) (dIntS x0.uq) (.slice (some ⟨p0_2, 0, none⟩) x0.uq.length x0.uq.length) ∧ (wx1.alloc (.cells #[.string ⟨x1.col.toArray⟩, .int .i64 x1.fn, .slice (some ⟨p1_2, 0, none⟩) x1.val.length x1.val.length] 39)).heap[wx1.heap.size]? = some (.cells #[.string ⟨x1.col.toArray⟩, .int .i64 x1.fn, .slice (some ⟨p1_2, 0, none⟩) x1.val.length x1.val.length] 39) ∧ Rd (wx1.alloc (.cells #[.string ⟨x1.col.toArray⟩, .int .i64 x1.fn, .slice (some ⟨p1_2, 0, none⟩) x1.val.length x1.val.length] 39)) (fun _ => True) (dAtomS x1.val) (.slice (some ⟨p1_2, 0, none⟩) x1.val.length x1.val.length)) := ⟨XO.1.trans ((below_allocD _ _).mono XO.1.size), heap_keptD XO.2.1 (below_allocD _ _), heap_keptD XO.2.2.1 (below_allocD _ _), heap_keptD XO.2.2.2.1 (below_allocD _ _), XO.2.2.2.2.1.later (below_allocD _ _), XO.2.2.2.2.2.later (below_allocD _ _), heap_newD _ _, Rd.later ((Owns.one ho (j := 2) (by omega)).rd'.any) (below_allocD _ _)⟩
  clear hB hA ho XO Y0 XS0L x0_0 x0_1 x0_2 x0_3 x1_0 x1_1 x1_2 y0_0 y0_1 y0_2 y0_3
  have x0_0 := cell_at (o := 0) Y1.out.2.1 rfl
  have x0_1 := cell_at (o := 1) Y1.out.2.1 rfl
  have x0_2 := cell_at (o := 2) Y1.out.2.1 rfl
  have x0_3 := cell_at (o := 3) Y1.out.2.1 rfl
  have x1_0 := cell_at (o := 0) Y1.out.2.2.1 rfl
  have x1_1 := cell_at (o := 1) Y1.out.2.2.1 rfl
  have x1_2 := cell_at (o := 2) Y1.out.2.2.1 rfl
  have y0_0 := cell_at (o := 0) Y1.out.2.2.2.1 rfl
  have y0_1 := cell_at (o := 1) Y1.out.2.2.2.1 rfl
  have y0_2 := cell_at (o := 2) Y1.out.2.2.2.1 rfl
  have y0_3 := cell_at (o := 3) Y1.out.2.2.2.1 rfl
  have y1_0 := cell_at (o := 0) Y1.out.2.2.2.2.2.2.1 rfl
  have y1_1 := cell_at (o := 1) Y1.out.2.2.2.2.2.2.1 rfl
  have y1_2 := cell_at (o := 2) Y1.out.2.2.2.2.2.2.1 rfl
  go_wp2_with fail
  refine (CI.out _ _ _ _ _ _ _ Y1.out.2.2.2.2.1 Y1.out.2.2.2.2.2.1 Y1.out.2.2.2.2.2.2.2).mono ?_
  rintro e wg ⟨rfl, hB⟩
  have Z := Lib.hid (XS1L.out _ _ Y1.out hB)
  clear hB Y1 x0_0 x0_1 x0_2 x0_3 x1_0 x1_1 x1_2 y0_0 y0_1 y0_2 y0_3 y1_0 y1_1 y1_2
  have x0_0 := cell_at (o := 0) Z.out.2.1 rfl
  have x0_1 := cell_at (o := 1) Z.out.2.1 rfl
  have x0_2 := cell_at (o := 2) Z.out.2.1 rfl
  have x0_3 := cell_at (o := 3) Z.out.2.1 rfl
  have x1_0 := cell_at (o := 0) Z.out.2.2.1 rfl
  have x1_1 := cell_at (o := 1) Z.out.2.2.1 rfl
  have x1_2 := cell_at (o := 2) Z.out.2.2.1 rfl
  have y0_0 := cell_at (o := 0) Z.out.2.2.2.1 rfl
  have y0_1 := cell_at (o := 1) Z.out.2.2.2.1 rfl
  have y0_2 := cell_at (o := 2) Z.out.2.2.2.1 rfl
  have y0_3 := cell_at (o := 3) Z.out.2.2.2.1 rfl
  have y1_0 := cell_at (o := 0) Z.out.2.2.2.2.2.2.1 rfl
  have y1_1 := cell_at (o := 1) Z.out.2.2.2.2.2.2.1 rfl
  have y1_2 := cell_at (o := 2) Z.out.2.2.2.2.2.2.1 rfl
  go_wp2_with fail
  have CE0 : Hid (∀ W, (Below w.heap.size w W ∧ W.heap[w.heap.size]? = some (.cells #[.string ⟨x0.nm.toArray⟩, .slice a0_1 x0.cols.length c0_1, .slice a0_2 x0.uq.length c0_2, .bool x0.rt] 25) ∧ W.heap[w.heap.size + 1]? = some (.cells #[.string ⟨x1.col.toArray⟩, .int .i64 x1.fn, .slice a1_2 x1.val.length c1_2] 28) ∧ W.heap[wx0.heap.size]? = some (.cells #[.string ⟨x0.nm.toArray⟩, .slice (some ⟨p0_1, 0, none⟩) x0.cols.length x0.cols.length, .slice (some ⟨p0_2, 0, none⟩) x0.uq.length x0.uq.length, .bool x0.rt] 35) ∧ Rd W (fun _ => True) (dColumnS x0.cols) (.slice (some ⟨p0_1, 0, none⟩) x0.cols.length x0.cols.length) ∧ Rd W (fun _ => True) (dIntS x0.uq) (.slice (some ⟨p0_2, 0, none⟩) x0.uq.length x0.uq.length) ∧ W.heap[wx1.heap.size]? = some (.cells #[.string ⟨x1.col.toArray⟩, .int .i64 x1.fn, .slice (some ⟨p1_2, 0, none⟩) x1.val.length x1.val.length] 39) ∧ Rd W (fun _ => True) (dAtomS x1.val) (.slice (some ⟨p1_2, 0, none⟩) x1.val.length x1.val.length)) → (W.cell? ⟨w.heap.size, 0, none⟩ = some (.string ⟨x0.nm.toArray⟩) ∧ W.cell? ⟨w.heap.size, 1, none⟩ = some (.slice a0_1 x0.cols.length c0_1) ∧ W.cell? ⟨w.heap.size, 2, none⟩ = some (.slice a0_2 x0.uq.length c0_2) ∧ W.cell? ⟨w.heap.size, 3, none⟩ = some (.bool x0.rt) ∧ W.cell? ⟨wx0.heap.size, 0, none⟩ = some (.string ⟨x0.nm.toArray⟩) ∧ W.cell? ⟨wx0.heap.size, 1, none⟩ = some (.slice (some ⟨p0_1, 0, none⟩) x0.cols.length x0.cols.length) ∧ W.cell? ⟨wx0.heap.size, 2, none⟩ = some (.slice (some ⟨p0_2, 0, none⟩) x0.uq.length x0.uq.length) ∧ W.cell? ⟨wx0.heap.size, 3, none⟩ = some (.bool x0.rt))) := fun W h => ⟨cell_at (o := 0) h.2.1 rfl, cell_at (o := 1) h.2.1 rfl, cell_at (o := 2) h.2.1 rfl, cell_at (o := 3) h.2.1 rfl, cell_at (o := 0) h.2.2.2.1 rfl, cell_at (o := 1) h.2.2.2.1 rfl, cell_at (o := 2) h.2.2.2.1 rfl, cell_at (o := 3) h.2.2.2.1 rfl⟩
  have hx := Z.out
  clear Z
  have XA : Hid (∀ W, (Below w.heap.size w W ∧ W.heap[w.heap.size]? = some (.cells #[.string ⟨x0.nm.toArray⟩, .slice a0_1 x0.cols.length c0_1, .slice a0_2 x0.uq.length c0_2, .bool x0.rt] 25) ∧ W.heap[w.heap.size + 1]? = some (.cells #[.string ⟨x1.col.toArray⟩, .int .i64 x1.fn, .slice a1_2 x1.val.length c1_2] 28) ∧ W.heap[wx0.heap.size]? = some (.cells #[.string ⟨x0.nm.toArray⟩, .slice (some ⟨p0_1, 0, none⟩) x0.cols.length x0.cols.length, .slice (some ⟨p0_2, 0, none⟩) x0.uq.length x0.uq.length, .bool x0.rt] 35) ∧ Rd W (fun _ => True) (dColumnS x0.cols) (.slice (some ⟨p0_1, 0, none⟩) x0.cols.length x0.cols.length) ∧ Rd W (fun _ => True) (dIntS x0.uq) (.slice (some ⟨p0_2, 0, none⟩) x0.uq.length x0.uq.length) ∧ W.heap[wx1.heap.size]? = some (.cells #[.string ⟨x1.col.toArray⟩, .int .i64 x1.fn, .slice (some ⟨p1_2, 0, none⟩) x1.val.length x1.val.length] 39) ∧ Rd W (fun _ => True) (dAtomS x1.val) (.slice (some ⟨p1_2, 0, none⟩) x1.val.length x1.val.length)) → (Below w.heap.size w W ∧ W.heap[w.heap.size]? = some (.cells #[.string ⟨x0.nm.toArray⟩, .slice a0_1 x0.cols.length c0_1, .slice a0_2 x0.uq.length c0_2, .bool x0.rt] 25) ∧ W.heap[w.heap.size + 1]? = some (.cells #[.string ⟨x1.col.toArray⟩, .int .i64 x1.fn, .slice a1_2 x1.val.length c1_2] 28))) := fun W h => ⟨h.1, h.2.1, h.2.2.1⟩
  refine wp_region_held_drew (S := (fun W => W.cell? ⟨w.heap.size, 0, none⟩ = some (.string ⟨x0.nm.toArray⟩) ∧ W.cell? ⟨w.heap.size, 1, none⟩ = some (.slice a0_1 x0.cols.length c0_1) ∧ W.cell? ⟨w.heap.size, 2, none⟩ = some (.slice a0_2 x0.uq.length c0_2) ∧ W.cell? ⟨w.heap.size, 3, none⟩ = some (.bool x0.rt) ∧ W.cell? ⟨wx0.heap.size, 0, none⟩ = some (.string ⟨x0.nm.toArray⟩) ∧ W.cell? ⟨wx0.heap.size, 1, none⟩ = some (.slice (some ⟨p0_1, 0, none⟩) x0.cols.length x0.cols.length) ∧ W.cell? ⟨wx0.heap.size, 2, none⟩ = some (.slice (some ⟨p0_2, 0, none⟩) x0.uq.length x0.uq.length) ∧ W.cell? ⟨wx0.heap.size, 3, none⟩ = some (.bool x0.rt))) (by kernel_rfl) ?_ (fun hHeld => ?_)
  · (first | exact CE0.out _ hx | exact CE0.out _ (XS1L.out _ _ hx (Below.refl _ _).drew))
  refine wpAnyH_take (i := 0) (v := ?_) rfl (by kernel_rfl) (by kernel_rfl) (by kernel_rfl) (fun _ _ _ h => h) (Or.inl ⟨by kernel_rfl, ?_⟩) (by assumption) ?_
  rotate_left
  · (intro wS hSw; (try dsimp only at hSw); go_simp <;> with_reducible rfl)
  try simp only [Act.put, List.getElem_toArray, List.getElem_cons_succ, List.getElem_cons_zero, List.setIfInBounds_toArray, List.set_cons_zero, List.set_cons_succ]
  refine wpAnyH_take (i := 1) (v := ?_) rfl (by kernel_rfl) (by kernel_rfl) (by kernel_rfl) (fun _ _ _ h => h) (Or.inl ⟨by kernel_rfl, ?_⟩) (by assumption) ?_
  rotate_left
  · (intro wS hSw; (try dsimp only at hSw); go_simp <;> with_reducible rfl)
  try simp only [Act.put, List.getElem_toArray, List.getElem_cons_succ, List.getElem_cons_zero, List.setIfInBounds_toArray, List.set_cons_zero, List.set_cons_succ]
  refine wpAnyH_ready (rs := [2]) (by kernel_rfl) (by simp) (AllReadyH.cons rfl (fun K hK => ?_) AllReadyH.nil)
  go_simp
  (go_at_call 7; refine (TO0.out _ (by first | exact XA.out _ hx | exact XA.out _ (XS1L.out _ _ hx (Below.refl _ _).drew))).mono ?_; rintro e we0 ⟨s0_1, s0_2, rfl, ho, hB, _⟩; have h2 : Below w.heap.size w we0 ∧ we0.heap[w.heap.size]? = some (.cells #[.string ⟨x0.nm.toArray⟩, .slice a0_1 x0.cols.length c0_1, .slice a0_2 x0.uq.length c0_2, .bool x0.rt] 25) ∧ we0.heap[w.heap.size + 1]? = some (.cells #[.string ⟨x1.col.toArray⟩, .int .i64 x1.fn, .slice a1_2 x1.val.length c1_2] 28) ∧ we0.heap[wx0.heap.size]? = some (.cells #[.string ⟨x0.nm.toArray⟩, .slice (some ⟨p0_1, 0, none⟩) x0.cols.length x0.cols.length, .slice (some ⟨p0_2, 0, none⟩) x0.uq.length x0.uq.length, .bool x0.rt] 35) ∧ Rd we0 (fun _ => True) (dColumnS x0.cols) (.slice (some ⟨p0_1, 0, none⟩) x0.cols.length x0.cols.length) ∧ Rd we0 (fun _ => True) (dIntS x0.uq) (.slice (some ⟨p0_2, 0, none⟩) x0.uq.length x0.uq.length) ∧ we0.heap[wx1.heap.size]? = some (.cells #[.string ⟨x1.col.toArray⟩, .int .i64 x1.fn, .slice (some ⟨p1_2, 0, none⟩) x1.val.length x1.val.length] 39) ∧ Rd we0 (fun _ => True) (dAtomS x1.val) (.slice (some ⟨p1_2, 0, none⟩) x1.val.length x1.val.length) := (by first | exact XS1L.out _ _ hx hB | exact XS1L.out _ _ (XS1L.out _ _ hx (Below.refl _ _).drew) hB); clear hx; have hx := h2; clear h2; have RE0_1 : Hid (Rd _ (fun _ => True) (dColumnS x0.cols) (.slice (some ⟨s0_1, 0, none⟩) x0.cols.length x0.cols.length)) := (Owns.one ho (j := 1) (by omega)).rd'.any; have RE0_2 : Hid (Rd _ (fun _ => True) (dIntS x0.uq) (.slice (some ⟨s0_2, 0, none⟩) x0.uq.length x0.uq.length)) := (Owns.one ho (j := 2) (by omega)).rd'.any; clear hB ho)
  refine hK.out _ _ ?_ (fun hHeld => ?_)
  · (first | exact CE0.out _ hx | exact CE0.out _ (XS1L.out _ _ hx (Below.refl _ _).drew))
  clear hK K
  try simp only [Act.put, List.getElem_toArray, List.getElem_cons_succ, List.getElem_cons_zero, List.setIfInBounds_toArray, List.set_cons_zero, List.set_cons_succ]
  refine wpAnyH_ready (rs := [3]) (by kernel_rfl) (by simp) (AllReadyH.cons rfl (fun K hK => ?_) AllReadyH.nil)
  go_simp
  (go_at_call 10; refine (EQ0.out _ _ _ _ _ _ _ _ _ (by first | exact hx.2.2.2.2.1 | exact Rd.later hx.2.2.2.2.1 (Below.refl _ _).drew) (by first | exact hx.2.2.2.2.2.1 | exact Rd.later hx.2.2.2.2.2.1 (Below.refl _ _).drew) (by first | exact RE0_1.out | exact Rd.later RE0_1.out (Below.refl _ _).drew) (by first | exact RE0_2.out | exact Rd.later RE0_2.out (Below.refl _ _).drew)).mono ?_; rintro e wf0 ⟨rfl, hB⟩; have h2 : Below w.heap.size w wf0 ∧ wf0.heap[w.heap.size]? = some (.cells #[.string ⟨x0.nm.toArray⟩, .slice a0_1 x0.cols.length c0_1, .slice a0_2 x0.uq.length c0_2, .bool x0.rt] 25) ∧ wf0.heap[w.heap.size + 1]? = some (.cells #[.string ⟨x1.col.toArray⟩, .int .i64 x1.fn, .slice a1_2 x1.val.length c1_2] 28) ∧ wf0.heap[wx0.heap.size]? = some (.cells #[.string ⟨x0.nm.toArray⟩, .slice (some ⟨p0_1, 0, none⟩) x0.cols.length x0.cols.length, .slice (some ⟨p0_2, 0, none⟩) x0.uq.length x0.uq.length, .bool x0.rt] 35) ∧ Rd wf0 (fun _ => True) (dColumnS x0.cols) (.slice (some ⟨p0_1, 0, none⟩) x0.cols.length x0.cols.length) ∧ Rd wf0 (fun _ => True) (dIntS x0.uq) (.slice (some ⟨p0_2, 0, none⟩) x0.uq.length x0.uq.length) ∧ wf0.heap[wx1.heap.size]? = some (.cells #[.string ⟨x1.col.toArray⟩, .int .i64 x1.fn, .slice (some ⟨p1_2, 0, none⟩) x1.val.length x1.val.length] 39) ∧ Rd wf0 (fun _ => True) (dAtomS x1.val) (.slice (some ⟨p1_2, 0, none⟩) x1.val.length x1.val.length) := (by first | exact XS1L.out _ _ hx hB | exact XS1L.out _ _ (XS1L.out _ _ hx (Below.refl _ _).drew) hB); clear hx hB; have hx := h2; clear h2)
  refine hK.out _ _ ?_ (fun hHeld => ?_)
  · (first | exact CE0.out _ hx | exact CE0.out _ (XS1L.out _ _ hx (Below.refl _ _).drew))
  clear hK K
  try simp only [Act.put, List.getElem_toArray, List.getElem_cons_succ, List.getElem_cons_zero, List.setIfInBounds_toArray, List.set_cons_zero, List.set_cons_succ]
  refine wpAnyH_take (i := 4) (v := ?_) rfl (by kernel_rfl) (by kernel_rfl) (by kernel_rfl) (fun _ _ _ h => h) (Or.inl ⟨by kernel_rfl, ?_⟩) (by assumption) ?_
  rotate_left
  · (intro wS hSw; (try dsimp only at hSw); go_simp <;> with_reducible rfl)
  try simp only [Act.put, List.getElem_toArray, List.getElem_cons_succ, List.getElem_cons_zero, List.setIfInBounds_toArray, List.set_cons_zero, List.set_cons_succ]
  refine wpAnyH_done (by kernel_rfl) ?_ _
  clear x0_0 x0_1 x0_2 x0_3 x1_0 x1_1 x1_2 y0_0 y0_1 y0_2 y0_3 y1_0 y1_1 y1_2 RE0_1 RE0_2
  have x0_0 := cell_at (o := 0) hx.2.1 rfl
  have x0_1 := cell_at (o := 1) hx.2.1 rfl
  have x0_2 := cell_at (o := 2) hx.2.1 rfl
  have x0_3 := cell_at (o := 3) hx.2.1 rfl
  have x1_0 := cell_at (o := 0) hx.2.2.1 rfl
  have x1_1 := cell_at (o := 1) hx.2.2.1 rfl
  have x1_2 := cell_at (o := 2) hx.2.2.1 rfl
  have y0_0 := cell_at (o := 0) hx.2.2.2.1 rfl
  have y0_1 := cell_at (o := 1) hx.2.2.2.1 rfl
  have y0_2 := cell_at (o := 2) hx.2.2.2.1 rfl
  have y0_3 := cell_at (o := 3) hx.2.2.2.1 rfl
  have y1_0 := cell_at (o := 0) hx.2.2.2.2.2.2.1 rfl
  have y1_1 := cell_at (o := 1) hx.2.2.2.2.2.2.1 rfl
  have y1_2 := cell_at (o := 2) hx.2.2.2.2.2.2.1 rfl
  go_wp2_with fail
  have CE1 : Hid (∀ W, (Below w.heap.size w W ∧ W.heap[w.heap.size]? = some (.cells #[.string ⟨x0.nm.toArray⟩, .slice a0_1 x0.cols.length c0_1, .slice a0_2 x0.uq.length c0_2, .bool x0.rt] 25) ∧ W.heap[w.heap.size + 1]? = some (.cells #[.string ⟨x1.col.toArray⟩, .int .i64 x1.fn, .slice a1_2 x1.val.length c1_2] 28) ∧ W.heap[wx0.heap.size]? = some (.cells #[.string ⟨x0.nm.toArray⟩, .slice (some ⟨p0_1, 0, none⟩) x0.cols.length x0.cols.length, .slice (some ⟨p0_2, 0, none⟩) x0.uq.length x0.uq.length, .bool x0.rt] 35) ∧ Rd W (fun _ => True) (dColumnS x0.cols) (.slice (some ⟨p0_1, 0, none⟩) x0.cols.length x0.cols.length) ∧ Rd W (fun _ => True) (dIntS x0.uq) (.slice (some ⟨p0_2, 0, none⟩) x0.uq.length x0.uq.length) ∧ W.heap[wx1.heap.size]? = some (.cells #[.string ⟨x1.col.toArray⟩, .int .i64 x1.fn, .slice (some ⟨p1_2, 0, none⟩) x1.val.length x1.val.length] 39) ∧ Rd W (fun _ => True) (dAtomS x1.val) (.slice (some ⟨p1_2, 0, none⟩) x1.val.length x1.val.length)) → (W.cell? ⟨w.heap.size + 1, 0, none⟩ = some (.string ⟨x1.col.toArray⟩) ∧ W.cell? ⟨w.heap.size + 1, 1, none⟩ = some (.int .i64 x1.fn) ∧ W.cell? ⟨w.heap.size + 1, 2, none⟩ = some (.slice a1_2 x1.val.length c1_2) ∧ W.cell? ⟨wx1.heap.size, 0, none⟩ = some (.string ⟨x1.col.toArray⟩) ∧ W.cell? ⟨wx1.heap.size, 1, none⟩ = some (.int .i64 x1.fn) ∧ W.cell? ⟨wx1.heap.size, 2, none⟩ = some (.slice (some ⟨p1_2, 0, none⟩) x1.val.length x1.val.length))) := fun W h => ⟨cell_at (o := 0) h.2.2.1 rfl, cell_at (o := 1) h.2.2.1 rfl, cell_at (o := 2) h.2.2.1 rfl, cell_at (o := 0) h.2.2.2.2.2.2.1 rfl, cell_at (o := 1) h.2.2.2.2.2.2.1 rfl, cell_at (o := 2) h.2.2.2.2.2.2.1 rfl⟩
  refine wp_region_held_drew (S := (fun W => W.cell? ⟨w.heap.size + 1, 0, none⟩ = some (.string ⟨x1.col.toArray⟩) ∧ W.cell? ⟨w.heap.size + 1, 1, none⟩ = some (.int .i64 x1.fn) ∧ W.cell? ⟨w.heap.size + 1, 2, none⟩ = some (.slice a1_2 x1.val.length c1_2) ∧ W.cell? ⟨wx1.heap.size, 0, none⟩ = some (.string ⟨x1.col.toArray⟩) ∧ W.cell? ⟨wx1.heap.size, 1, none⟩ = some (.int .i64 x1.fn) ∧ W.cell? ⟨wx1.heap.size, 2, none⟩ = some (.slice (some ⟨p1_2, 0, none⟩) x1.val.length x1.val.length))) (by kernel_rfl) ?_ (fun hHeld => ?_)
  · (first | exact CE1.out _ hx | exact CE1.out _ (XS1L.out _ _ hx (Below.refl _ _).drew))
  refine wpAnyH_take (i := 0) (v := ?_) rfl (by kernel_rfl) (by kernel_rfl) (by kernel_rfl) (fun _ _ _ h => h) (Or.inl ⟨by kernel_rfl, ?_⟩) (by assumption) ?_
  rotate_left
  · (intro wS hSw; (try dsimp only at hSw); go_simp <;> with_reducible rfl)
  try simp only [Act.put, List.getElem_toArray, List.getElem_cons_succ, List.getElem_cons_zero, List.setIfInBounds_toArray, List.set_cons_zero, List.set_cons_succ]
  refine wpAnyH_take (i := 1) (v := ?_) rfl (by kernel_rfl) (by kernel_rfl) (by kernel_rfl) (fun _ _ _ h => h) (Or.inl ⟨by kernel_rfl, ?_⟩) (by assumption) ?_
  rotate_left
  · (intro wS hSw; (try dsimp only at hSw); go_simp <;> with_reducible rfl)
  try simp only [Act.put, List.getElem_toArray, List.getElem_cons_succ, List.getElem_cons_zero, List.setIfInBounds_toArray, List.set_cons_zero, List.set_cons_succ]
  refine wpAnyH_ready (rs := [2]) (by kernel_rfl) (by simp) (AllReadyH.cons rfl (fun K hK => ?_) AllReadyH.nil)
  go_simp
  (go_at_call 8; refine (TO1.out _ (by first | exact XA.out _ hx | exact XA.out _ (XS1L.out _ _ hx (Below.refl _ _).drew))).mono ?_; rintro e we1 ⟨s1_2, rfl, ho, hB, _⟩; have h2 : Below w.heap.size w we1 ∧ we1.heap[w.heap.size]? = some (.cells #[.string ⟨x0.nm.toArray⟩, .slice a0_1 x0.cols.length c0_1, .slice a0_2 x0.uq.length c0_2, .bool x0.rt] 25) ∧ we1.heap[w.heap.size + 1]? = some (.cells #[.string ⟨x1.col.toArray⟩, .int .i64 x1.fn, .slice a1_2 x1.val.length c1_2] 28) ∧ we1.heap[wx0.heap.size]? = some (.cells #[.string ⟨x0.nm.toArray⟩, .slice (some ⟨p0_1, 0, none⟩) x0.cols.length x0.cols.length, .slice (some ⟨p0_2, 0, none⟩) x0.uq.length x0.uq.length, .bool x0.rt] 35) ∧ Rd we1 (fun _ => True) (dColumnS x0.cols) (.slice (some ⟨p0_1, 0, none⟩) x0.cols.length x0.cols.length) ∧ Rd we1 (fun _ => True) (dIntS x0.uq) (.slice (some ⟨p0_2, 0, none⟩) x0.uq.length x0.uq.length) ∧ we1.heap[wx1.heap.size]? = some (.cells #[.string ⟨x1.col.toArray⟩, .int .i64 x1.fn, .slice (some ⟨p1_2, 0, none⟩) x1.val.length x1.val.length] 39) ∧ Rd we1 (fun _ => True) (dAtomS x1.val) (.slice (some ⟨p1_2, 0, none⟩) x1.val.length x1.val.length) := (by first | exact XS1L.out _ _ hx hB | exact XS1L.out _ _ (XS1L.out _ _ hx (Below.refl _ _).drew) hB); clear hx; have hx := h2; clear h2; have RE1_2 : Hid (Rd _ (fun _ => True) (dAtomS x1.val) (.slice (some ⟨s1_2, 0, none⟩) x1.val.length x1.val.length)) := (Owns.one ho (j := 2) (by omega)).rd'.any; clear hB ho)
  refine hK.out _ _ ?_ (fun hHeld => ?_)
  · (first | exact CE1.out _ hx | exact CE1.out _ (XS1L.out _ _ hx (Below.refl _ _).drew))
  clear hK K
  try simp only [Act.put, List.getElem_toArray, List.getElem_cons_succ, List.getElem_cons_zero, List.setIfInBounds_toArray, List.set_cons_zero, List.set_cons_succ]
  refine wpAnyH_ready (rs := [3]) (by kernel_rfl) (by simp) (AllReadyH.cons rfl (fun K hK => ?_) AllReadyH.nil)
  go_simp
  (go_at_call 11; refine (EQ1.out _ _ _ _ _ (by first | exact hx.2.2.2.2.2.2.2 | exact Rd.later hx.2.2.2.2.2.2.2 (Below.refl _ _).drew) (by first | exact RE1_2.out | exact Rd.later RE1_2.out (Below.refl _ _).drew)).mono ?_; rintro e wf1 ⟨rfl, hB⟩; have h2 : Below w.heap.size w wf1 ∧ wf1.heap[w.heap.size]? = some (.cells #[.string ⟨x0.nm.toArray⟩, .slice a0_1 x0.cols.length c0_1, .slice a0_2 x0.uq.length c0_2, .bool x0.rt] 25) ∧ wf1.heap[w.heap.size + 1]? = some (.cells #[.string ⟨x1.col.toArray⟩, .int .i64 x1.fn, .slice a1_2 x1.val.length c1_2] 28) ∧ wf1.heap[wx0.heap.size]? = some (.cells #[.string ⟨x0.nm.toArray⟩, .slice (some ⟨p0_1, 0, none⟩) x0.cols.length x0.cols.length, .slice (some ⟨p0_2, 0, none⟩) x0.uq.length x0.uq.length, .bool x0.rt] 35) ∧ Rd wf1 (fun _ => True) (dColumnS x0.cols) (.slice (some ⟨p0_1, 0, none⟩) x0.cols.length x0.cols.length) ∧ Rd wf1 (fun _ => True) (dIntS x0.uq) (.slice (some ⟨p0_2, 0, none⟩) x0.uq.length x0.uq.length) ∧ wf1.heap[wx1.heap.size]? = some (.cells #[.string ⟨x1.col.toArray⟩, .int .i64 x1.fn, .slice (some ⟨p1_2, 0, none⟩) x1.val.length x1.val.length] 39) ∧ Rd wf1 (fun _ => True) (dAtomS x1.val) (.slice (some ⟨p1_2, 0, none⟩) x1.val.length x1.val.length) := (by first | exact XS1L.out _ _ hx hB | exact XS1L.out _ _ (XS1L.out _ _ hx (Below.refl _ _).drew) hB); clear hx hB; have hx := h2; clear h2)
  refine hK.out _ _ ?_ (fun hHeld => ?_)
  · (first | exact CE1.out _ hx | exact CE1.out _ (XS1L.out _ _ hx (Below.refl _ _).drew))
  clear hK K
  try simp only [Act.put, List.getElem_toArray, List.getElem_cons_succ, List.getElem_cons_zero, List.setIfInBounds_toArray, List.set_cons_zero, List.set_cons_succ]
  refine wpAnyH_take (i := 4) (v := ?_) rfl (by kernel_rfl) (by kernel_rfl) (by kernel_rfl) (fun _ _ _ h => h) (Or.inl ⟨by kernel_rfl, ?_⟩) (by assumption) ?_
  rotate_left
  · (intro wS hSw; (try dsimp only at hSw); go_simp <;> with_reducible rfl)
  try simp only [Act.put, List.getElem_toArray, List.getElem_cons_succ, List.getElem_cons_zero, List.setIfInBounds_toArray, List.set_cons_zero, List.set_cons_succ]
  refine wpAnyH_done (by kernel_rfl) ?_ _
  clear x0_0 x0_1 x0_2 x0_3 x1_0 x1_1 x1_2 y0_0 y0_1 y0_2 y0_3 y1_0 y1_1 y1_2 RE1_2
  go_wp2_with fail
  go_ret
  exact ⟨rfl, by first | exact hx.1 | exact hx.1.drew⟩
end Go.Proofs.Ytponpcbedcihaaa
