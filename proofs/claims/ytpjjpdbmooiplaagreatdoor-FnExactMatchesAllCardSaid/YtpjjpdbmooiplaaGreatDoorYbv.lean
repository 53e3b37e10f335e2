import Derived.Test.YtpjjpdbmooiplaaGreatDoorYbu
import Derived.Test.YtpjjpdbmooiplaaGreatDoorYbs
import Derived.Deep.RegionHeld3
import Derived.Deep.CutRange
import Derived.Test.YtpjjpdbmooiplaaGreatDoorYTk
namespace Go.Proofs.YtpjjpdbmooiplaaGreatDoor
open Go.RowKit
set_option linter.unusedSimpArgs false
set_option maxRecDepth 100000 in
set_option maxHeartbeats 12800000 in
theorem lawMatchesAll (x0 : Tb) (x1 : RowV) (x2 : List CondV) (a0_1 : Option Addr) (c0_1 : Nat) (a0_2 : Option Addr) (c0_2 : Nat) (a1_1 : Option Addr) (c1_1 : Nat) (a2_ : Option Addr) (c2_ : Nat) (w : World) (l0_1 : (dColumnS x0.cols).le maxLen) (l0_2 : (dIntS x0.uq).le maxLen) (l1_1 : (dAtomSS x1.cells).le maxLen) (l2_ : (dCondS x2).le maxLen) (l0_0 : x0.nm.length ≤ maxLen) (l1_0 : iOK x1.id) (r0_1 : Rd w (· < w.heap.size) (dColumnS x0.cols) (.slice a0_1 x0.cols.length c0_1)) (r0_2 : Rd w (· < w.heap.size) (dIntS x0.uq) (.slice a0_2 x0.uq.length c0_2)) (r1_1 : Rd w (· < w.heap.size) (dAtomSS x1.cells) (.slice a1_1 x1.cells.length c1_1)) (r2_ : Rd w (· < w.heap.size) (dCondS x2) (.slice a2_ x2.length c2_)) (hTab : TabW w) (h0w : 0 < w.heap.size) :
    Calls Tryz.prog 4 #[.agg #[.string ⟨x0.nm.toArray⟩, .slice a0_1 x0.cols.length c0_1, .slice a0_2 x0.uq.length c0_2, .bool x0.rt], .agg #[.int .i64 x1.id, .slice a1_1 x1.cells.length c1_1], .slice a2_ x2.length c2_] w fun e w' => e = .returned (.bool true) ∧ Below w.heap.size w w' := by
  have HTW := Lib.hid (And.intro hTab h0w)
  clear hTab h0w
  have HL0_1 := Lib.hid l0_1
  have HL0_2 := Lib.hid l0_2
  have HO0 : Hid (∀ j, j < 4 → (dTable x0 j).le maxLen) := fun j hj => by
    rcases (by omega : j = 0 ∨ j = 1 ∨ j = 2 ∨ j = 3) with rfl | rfl | rfl | rfl
    · exact l0_0
    · exact l0_1
    · exact l0_2
    · exact trivial
  have RA0_1 : Hid (∀ W, Below w.heap.size w W → Rd W (· < w.heap.size) (dColumnS x0.cols) (.slice a0_1 x0.cols.length c0_1)) := fun W h => Rd.same (fun b hb => h.block b hb) (fun _ h => h) _ _ r0_1
  have RA0_2 : Hid (∀ W, Below w.heap.size w W → Rd W (· < w.heap.size) (dIntS x0.uq) (.slice a0_2 x0.uq.length c0_2)) := fun W h => Rd.same (fun b hb => h.block b hb) (fun _ h => h) _ _ r0_2
  have HL1_1 := Lib.hid l1_1
  have HO1 : Hid (∀ j, j < 2 → (dRow x1 j).le maxLen) := fun j hj => by
    rcases (by omega : j = 0 ∨ j = 1) with rfl | rfl
    · exact l1_0
    · exact l1_1
  have RA1_1 : Hid (∀ W, Below w.heap.size w W → Rd W (· < w.heap.size) (dAtomSS x1.cells) (.slice a1_1 x1.cells.length c1_1)) := fun W h => Rd.same (fun b hb => h.block b hb) (fun _ h => h) _ _ r1_1
  have HL2_ := Lib.hid l2_
  have HO2 := Lib.hid l2_
  have RA2_ : Hid (∀ W, Below w.heap.size w W → Rd W (· < w.heap.size) (dCondS x2) (.slice a2_ x2.length c2_)) := fun W h => Rd.same (fun b hb => h.block b hb) (fun _ h => h) _ _ r2_
  have ALAT : Hid (∀ W W', (Below w.heap.size w W ∧ W.heap[w.heap.size]? = some (.cells #[.string ⟨x0.nm.toArray⟩, .slice a0_1 x0.cols.length c0_1, .slice a0_2 x0.uq.length c0_2, .bool x0.rt] 25) ∧ W.heap[w.heap.size + 1]? = some (.cells #[.int .i64 x1.id, .slice a1_1 x1.cells.length c1_1] 28)) → Below W.heap.size W W' → (Below w.heap.size w W' ∧ W'.heap[w.heap.size]? = some (.cells #[.string ⟨x0.nm.toArray⟩, .slice a0_1 x0.cols.length c0_1, .slice a0_2 x0.uq.length c0_2, .bool x0.rt] 25) ∧ W'.heap[w.heap.size + 1]? = some (.cells #[.int .i64 x1.id, .slice a1_1 x1.cells.length c1_1] 28))) := fun W W' h hB => ⟨h.1.trans (hB.mono h.1.size), heap_keptD h.2.1 hB, heap_keptD h.2.2 hB⟩
  have A0 : Hid (Below w.heap.size w ((w.alloc (.cells #[.string ⟨x0.nm.toArray⟩, .slice a0_1 x0.cols.length c0_1, .slice a0_2 x0.uq.length c0_2, .bool x0.rt] 25)).alloc (.cells #[.int .i64 x1.id, .slice a1_1 x1.cells.length c1_1] 28)) ∧ ((w.alloc (.cells #[.string ⟨x0.nm.toArray⟩, .slice a0_1 x0.cols.length c0_1, .slice a0_2 x0.uq.length c0_2, .bool x0.rt] 25)).alloc (.cells #[.int .i64 x1.id, .slice a1_1 x1.cells.length c1_1] 28)).heap[w.heap.size]? = some (.cells #[.string ⟨x0.nm.toArray⟩, .slice a0_1 x0.cols.length c0_1, .slice a0_2 x0.uq.length c0_2, .bool x0.rt] 25) ∧ ((w.alloc (.cells #[.string ⟨x0.nm.toArray⟩, .slice a0_1 x0.cols.length c0_1, .slice a0_2 x0.uq.length c0_2, .bool x0.rt] 25)).alloc (.cells #[.int .i64 x1.id, .slice a1_1 x1.cells.length c1_1] 28)).heap[w.heap.size + 1]? = some (.cells #[.int .i64 x1.id, .slice a1_1 x1.cells.length c1_1] 28)) := by
    refine ⟨(below_allocD _ _).trans ((below_allocD _ _).mono (by simp)), heap_keptD (heap_newD _ _) (below_allocD _ _), ?_⟩
    have h := heap_newD (w.alloc (.cells #[.string ⟨x0.nm.toArray⟩, .slice a0_1 x0.cols.length c0_1, .slice a0_2 x0.uq.length c0_2, .bool x0.rt] 25)) (.cells #[.int .i64 x1.id, .slice a1_1 x1.cells.length c1_1] 28)
    rw [size_allocD] at h
    exact h
  clear l0_1 r0_1 l0_2 r0_2 l1_1 r1_1 l2_ r2_ l1_0
  have x0_0 := cell_at (o := 0) A0.out.2.1 rfl
  have x0_1 := cell_at (o := 1) A0.out.2.1 rfl
  have x0_2 := cell_at (o := 2) A0.out.2.1 rfl
  have x0_3 := cell_at (o := 3) A0.out.2.1 rfl
  have x1_0 := cell_at (o := 0) A0.out.2.2 rfl
  have x1_1 := cell_at (o := 1) A0.out.2.2 rfl
  go_enter Tryz.func4, Tryz.ntmps4
  go_wp2_with fail
  have bl : Hid ((0 : Int) ≤ 1048576 ∧ (1048576 : Int) ≤ 1048576) := by show _ ∧ _; omega
  refine (szDTable x0 a0_1 c0_1 a0_2 c0_2 1048576 _ _ bl.out.1 bl.out.2 HO0.out (RA0_1.out _ A0.out.1) (RA0_2.out _ A0.out.1)).mono ?_
  rintro e ws0 ⟨rfl, hB⟩
  have AS0 := Lib.hid (ALAT.out _ _ A0.out hB)
  clear hB A0 x0_0 x0_1 x0_2 x0_3 x1_0 x1_1
  have x0_0 := cell_at (o := 0) AS0.out.2.1 rfl
  have x0_1 := cell_at (o := 1) AS0.out.2.1 rfl
  have x0_2 := cell_at (o := 2) AS0.out.2.1 rfl
  have x0_3 := cell_at (o := 3) AS0.out.2.1 rfl
  have x1_0 := cell_at (o := 0) AS0.out.2.2 rfl
  have x1_1 := cell_at (o := 1) AS0.out.2.2 rfl
  by_cases hz0 : (1048576 : Int) - (szT 4 (dTable x0) : Int) < 0
  case pos =>
    rw [less_no hz0]
    go_wp2_with fail
    go_ret
    exact ⟨rfl, AS0.out.1⟩
  rw [less_yes (by omega)]
  obtain ⟨L0, hL0⟩ : ∃ L0 : Int, L0 = 1048576 - (szT 4 (dTable x0) : Int) := ⟨_, rfl⟩
  rw [← hL0]
  have dL0 : decide (L0 < 0) = false := decide_eq_false (by omega)
  have HZ0 : Hid (szT 4 (dTable x0) ≤ 1048576) := by have := bl.out; show _ ≤ _; omega
  have b2 : Hid (0 ≤ L0 ∧ L0 ≤ 1048576) := by have := bl.out; show _ ∧ _; omega
  clear hz0 hL0 bl
  have bl := b2
  clear b2
  go_wp2_with fail
  refine (szDRow x1 a1_1 c1_1 L0 _ _ bl.out.1 bl.out.2 HO1.out (RA1_1.out _ AS0.out.1)).mono ?_
  rintro e ws1 ⟨rfl, hB⟩
  have AS1 := Lib.hid (ALAT.out _ _ AS0.out hB)
  clear hB AS0 x0_0 x0_1 x0_2 x0_3 x1_0 x1_1
  have x0_0 := cell_at (o := 0) AS1.out.2.1 rfl
  have x0_1 := cell_at (o := 1) AS1.out.2.1 rfl
  have x0_2 := cell_at (o := 2) AS1.out.2.1 rfl
  have x0_3 := cell_at (o := 3) AS1.out.2.1 rfl
  have x1_0 := cell_at (o := 0) AS1.out.2.2 rfl
  have x1_1 := cell_at (o := 1) AS1.out.2.2 rfl
  by_cases hz1 : L0 - (szT 2 (dRow x1) : Int) < 0
  case pos =>
    rw [less_no hz1]
    go_wp2_with fail
    go_ret
    exact ⟨rfl, AS1.out.1⟩
  rw [less_yes (by omega)]
  obtain ⟨L1, hL1⟩ : ∃ L1 : Int, L1 = L0 - (szT 2 (dRow x1) : Int) := ⟨_, rfl⟩
  rw [← hL1]
  have dL1 : decide (L1 < 0) = false := decide_eq_false (by omega)
  have HZ1 : Hid (szT 2 (dRow x1) ≤ 1048576) := by have := bl.out; show _ ≤ _; omega
  have b2 : Hid (0 ≤ L1 ∧ L1 ≤ 1048576) := by have := bl.out; show _ ∧ _; omega
  clear hz1 hL1 bl
  have bl := b2
  clear b2
  go_wp2_with fail
  refine (szDCondS x2 a2_ c2_ L1 _ _ bl.out.1 bl.out.2 HO2.out (RA2_.out _ AS1.out.1)).mono ?_
  rintro e ws2 ⟨rfl, hB⟩
  have AS2 := Lib.hid (ALAT.out _ _ AS1.out hB)
  clear hB AS1 x0_0 x0_1 x0_2 x0_3 x1_0 x1_1
  have x0_0 := cell_at (o := 0) AS2.out.2.1 rfl
  have x0_1 := cell_at (o := 1) AS2.out.2.1 rfl
  have x0_2 := cell_at (o := 2) AS2.out.2.1 rfl
  have x0_3 := cell_at (o := 3) AS2.out.2.1 rfl
  have x1_0 := cell_at (o := 0) AS2.out.2.2 rfl
  have x1_1 := cell_at (o := 1) AS2.out.2.2 rfl
  by_cases hz2 : L1 - ((dCondS x2).sz : Int) < 0
  case pos =>
    rw [less_no hz2]
    go_wp2_with fail
    go_ret
    exact ⟨rfl, AS2.out.1⟩
  rw [less_yes (by omega)]
  obtain ⟨L2, hL2⟩ : ∃ L2 : Int, L2 = L1 - ((dCondS x2).sz : Int) := ⟨_, rfl⟩
  rw [← hL2]
  have dL2 : decide (L2 < 0) = false := decide_eq_false (by omega)
  have HZ2 : Hid ((dCondS x2).sz ≤ 1048576) := by have := bl.out; show _ ≤ _; omega
  have b2 : Hid (0 ≤ L2 ∧ L2 ≤ 1048576) := by have := bl.out; show _ ∧ _; omega
  clear hz2 hL2 bl
  have bl := b2
  clear b2
  go_wp2_with fail
  have HK0 : Hid (∀ j, j < 4 → (dTable x0 j).le 1048576) := fun j hj => D.le_of_sz _ (HO0.out j hj) (Nat.le_trans (sumN_le (g := fun j => (dTable x0 j).sz) hj) HZ0.out)
  have HK1 : Hid (∀ j, j < 2 → (dRow x1 j).le 1048576) := fun j hj => D.le_of_sz _ (HO1.out j hj) (Nat.le_trans (sumN_le (g := fun j => (dRow x1 j).sz) hj) HZ1.out)
  have HK2 : Hid ((dCondS x2).le 1048576) := D.le_of_sz _ HO2.out HZ2.out
  have TO0 : Hid (∀ W, (Below w.heap.size w W ∧ W.heap[w.heap.size]? = some (.cells #[.string ⟨x0.nm.toArray⟩, .slice a0_1 x0.cols.length c0_1, .slice a0_2 x0.uq.length c0_2, .bool x0.rt] 25) ∧ W.heap[w.heap.size + 1]? = some (.cells #[.int .i64 x1.id, .slice a1_1 x1.cells.length c1_1] 28)) → Calls Tryz.prog 10 #[.agg #[.string ⟨x0.nm.toArray⟩, .slice a0_1 x0.cols.length c0_1, .slice a0_2 x0.uq.length c0_2, .bool x0.rt]] W fun e w' => ∃ p1 : Nat, ∃ p2 : Nat, e = .returned (.agg #[.string ⟨x0.nm.toArray⟩, .slice (some ⟨p1, 0, none⟩) x0.cols.length x0.cols.length, .slice (some ⟨p2, 0, none⟩) x0.uq.length x0.uq.length, .bool x0.rt]) ∧ Owns w' 4 (dTable x0) (vat [.string ⟨x0.nm.toArray⟩, .slice (some ⟨p1, 0, none⟩) x0.cols.length x0.cols.length, .slice (some ⟨p2, 0, none⟩) x0.uq.length x0.uq.length, .bool x0.rt]) (fun c => W.heap.size ≤ c ∧ c < w'.heap.size) ∧ Below W.heap.size W w' ∧ (Below w.heap.size w w' ∧ w'.heap[w.heap.size]? = some (.cells #[.string ⟨x0.nm.toArray⟩, .slice a0_1 x0.cols.length c0_1, .slice a0_2 x0.uq.length c0_2, .bool x0.rt] 25) ∧ w'.heap[w.heap.size + 1]? = some (.cells #[.int .i64 x1.id, .slice a1_1 x1.cells.length c1_1] 28))) := fun W h => (toDTable x0 a0_1 c0_1 a0_2 c0_2 _ W HK0.out (RA0_1.out W h.1) (RA0_2.out W h.1)).mono (fun e w' ⟨p1, p2, he, ho, hB⟩ => ⟨p1, p2, he, ho, hB, ALAT.out _ _ h hB⟩)
  have TO1 : Hid (∀ W, (Below w.heap.size w W ∧ W.heap[w.heap.size]? = some (.cells #[.string ⟨x0.nm.toArray⟩, .slice a0_1 x0.cols.length c0_1, .slice a0_2 x0.uq.length c0_2, .bool x0.rt] 25) ∧ W.heap[w.heap.size + 1]? = some (.cells #[.int .i64 x1.id, .slice a1_1 x1.cells.length c1_1] 28)) → Calls Tryz.prog 11 #[.agg #[.int .i64 x1.id, .slice a1_1 x1.cells.length c1_1]] W fun e w' => ∃ p1 : Nat, e = .returned (.agg #[.int .i64 x1.id, .slice (some ⟨p1, 0, none⟩) x1.cells.length x1.cells.length]) ∧ Owns w' 2 (dRow x1) (vat [.int .i64 x1.id, .slice (some ⟨p1, 0, none⟩) x1.cells.length x1.cells.length]) (fun c => W.heap.size ≤ c ∧ c < w'.heap.size) ∧ Below W.heap.size W w' ∧ (Below w.heap.size w w' ∧ w'.heap[w.heap.size]? = some (.cells #[.string ⟨x0.nm.toArray⟩, .slice a0_1 x0.cols.length c0_1, .slice a0_2 x0.uq.length c0_2, .bool x0.rt] 25) ∧ w'.heap[w.heap.size + 1]? = some (.cells #[.int .i64 x1.id, .slice a1_1 x1.cells.length c1_1] 28))) := fun W h => (toDRow x1 a1_1 c1_1 _ W HK1.out (RA1_1.out W h.1)).mono (fun e w' ⟨p1, he, ho, hB⟩ => ⟨p1, he, ho, hB, ALAT.out _ _ h hB⟩)
  have TO2 : Hid (∀ W, (Below w.heap.size w W ∧ W.heap[w.heap.size]? = some (.cells #[.string ⟨x0.nm.toArray⟩, .slice a0_1 x0.cols.length c0_1, .slice a0_2 x0.uq.length c0_2, .bool x0.rt] 25) ∧ W.heap[w.heap.size + 1]? = some (.cells #[.int .i64 x1.id, .slice a1_1 x1.cells.length c1_1] 28)) → Calls Tryz.prog 19 #[.slice a2_ x2.length c2_] W fun e w' => ∃ p : Nat, e = .returned (.slice (some ⟨p, 0, none⟩) x2.length x2.length) ∧ Own w' (dCondS x2) (fun c => W.heap.size ≤ c ∧ c < w'.heap.size) (.slice (some ⟨p, 0, none⟩) x2.length x2.length) ∧ Below W.heap.size W w' ∧ (Below w.heap.size w w' ∧ w'.heap[w.heap.size]? = some (.cells #[.string ⟨x0.nm.toArray⟩, .slice a0_1 x0.cols.length c0_1, .slice a0_2 x0.uq.length c0_2, .bool x0.rt] 25) ∧ w'.heap[w.heap.size + 1]? = some (.cells #[.int .i64 x1.id, .slice a1_1 x1.cells.length c1_1] 28))) := fun W h => (toDCondS x2 a2_ c2_ _ W HK2.out (RA2_.out W h.1)).mono (fun e w' ⟨he, ho, hB⟩ => ⟨_, he, ho, hB, ALAT.out _ _ h hB⟩)
  have CS : Hid (∀ (W : World) (b0_1 : Option Addr) (e0_1 : Nat) (b0_2 : Option Addr) (e0_2 : Nat) (b1_1 : Option Addr) (e1_1 : Nat) (b2_ : Option Addr) (e2_ : Nat), Rd W (fun _ => True) (dColumnS x0.cols) (.slice b0_1 x0.cols.length e0_1) → Rd W (fun _ => True) (dIntS x0.uq) (.slice b0_2 x0.uq.length e0_2) → Rd W (fun _ => True) (dAtomSS x1.cells) (.slice b1_1 x1.cells.length e1_1) → Rd W (fun _ => True) (dCondS x2) (.slice b2_ x2.length e2_) → Calls Tryz.prog 18 #[.agg #[.string ⟨x0.nm.toArray⟩, .slice b0_1 x0.cols.length e0_1, .slice b0_2 x0.uq.length e0_2, .bool x0.rt], .agg #[.int .i64 x1.id, .slice b1_1 x1.cells.length e1_1], .slice b2_ x2.length e2_] W fun e w' => e = .returned (.tuple #[.bool (maR x0 x1 x2), .int .i64 (maC x0 x1 x2)]) ∧ Below W.heap.size W w') := fun W b0_1 e0_1 b0_2 e0_2 b1_1 e1_1 b2_ e2_ h0_1 h0_2 h1_1 h2_ => matchesAllS x0 b0_1 e0_1 b0_2 e0_2 _ x1 b1_1 e1_1 _ x2 b2_ e2_ _ W (le_table (HO0.out 0 (by omega)) HL0_1.out HL0_2.out) HK2.out HL1_1.out (HO1.out 0 (by omega)) (Rd.hasT h0_1 h0_2) h1_1 h2_
  have CI : Hid (∀ (W : World) (b0_1 : Option Addr) (e0_1 : Nat) (b0_2 : Option Addr) (e0_2 : Nat) (b1_1 : Option Addr) (e1_1 : Nat) (b2_ : Option Addr) (e2_ : Nat), Rd W (fun _ => True) (dColumnS x0.cols) (.slice b0_1 x0.cols.length e0_1) → Rd W (fun _ => True) (dIntS x0.uq) (.slice b0_2 x0.uq.length e0_2) → Rd W (fun _ => True) (dAtomSS x1.cells) (.slice b1_1 x1.cells.length e1_1) → Rd W (fun _ => True) (dCondS x2) (.slice b2_ x2.length e2_) → Below w.heap.size w W → Calls Tryz.prog 20 #[.agg #[.string ⟨x0.nm.toArray⟩, .slice b0_1 x0.cols.length e0_1, .slice b0_2 x0.uq.length e0_2, .bool x0.rt], .agg #[.int .i64 x1.id, .slice b1_1 x1.cells.length e1_1], .slice b2_ x2.length e2_] W fun e w' => e = .returned (.tuple #[.bool (maR x0 x1 x2), .int .i64 (maC x0 x1 x2)]) ∧ Below W.heap.size W w') := fun W b0_1 e0_1 b0_2 e0_2 b1_1 e1_1 b2_ e2_ h0_1 h0_2 h1_1 h2_ hbel => matchesAllI x0 b0_1 e0_1 b0_2 e0_2 _ x1 b1_1 e1_1 _ x2 b2_ e2_ _ W (le_table (HO0.out 0 (by omega)) HL0_1.out HL0_2.out) HK2.out HL1_1.out (HO1.out 0 (by omega)) (HK1.out 1 (by omega)) (HTW.out.1.later HTW.out.2 hbel) (Nat.lt_of_lt_of_le HTW.out.2 hbel.size) (Rd.hasT h0_1 h0_2) h1_1 h2_
  have nq0 := bne_self_eq_false (maR x0 x1 x2)
  generalize (maR x0 x1 x2) = R0 at *
  have nq1 := bne_self_eq_false (maC x0 x1 x2)
  generalize (maC x0 x1 x2) = R1 at *
  have EQ0 : Hid (∀ (W : World) (b1 : Option Addr) (e1 : Nat) (f1 : Option Addr) (g1 : Nat) (b2 : Option Addr) (e2 : Nat) (f2 : Option Addr) (g2 : Nat), Rd W (fun _ => True) (dColumnS x0.cols) (.slice b1 x0.cols.length e1) → Rd W (fun _ => True) (dIntS x0.uq) (.slice b2 x0.uq.length e2) → Rd W (fun _ => True) (dColumnS x0.cols) (.slice f1 x0.cols.length g1) → Rd W (fun _ => True) (dIntS x0.uq) (.slice f2 x0.uq.length g2) → Calls Tryz.prog 14 #[.agg #[.string ⟨x0.nm.toArray⟩, .slice b1 x0.cols.length e1, .slice b2 x0.uq.length e2, .bool x0.rt], .agg #[.string ⟨x0.nm.toArray⟩, .slice f1 x0.cols.length g1, .slice f2 x0.uq.length g2, .bool x0.rt]] W fun e w' => e = .returned (.bool true) ∧ Below W.heap.size W w') := fun W b1 e1 f1 g1 b2 e2 f2 g2 h1 h2 i1 i2 => eqDTable x0 b1 e1 b2 e2 f1 g1 f2 g2 _ _ W HO0.out h1 h2 i1 i2
  have EQ1 : Hid (∀ (W : World) (b1 : Option Addr) (e1 : Nat) (f1 : Option Addr) (g1 : Nat), Rd W (fun _ => True) (dAtomSS x1.cells) (.slice b1 x1.cells.length e1) → Rd W (fun _ => True) (dAtomSS x1.cells) (.slice f1 x1.cells.length g1) → Calls Tryz.prog 15 #[.agg #[.int .i64 x1.id, .slice b1 x1.cells.length e1], .agg #[.int .i64 x1.id, .slice f1 x1.cells.length g1]] W fun e w' => e = .returned (.bool true) ∧ Below W.heap.size W w') := fun W b1 e1 f1 g1 h1 i1 => eqDRow x1 b1 e1 f1 g1 _ _ W HO1.out h1 i1
  have EQ2 : Hid (∀ (W : World) (b : Option Addr) (e : Nat) (f : Option Addr) (g : Nat), Rd W (fun _ => True) (dCondS x2) (.slice b x2.length e) → Rd W (fun _ => True) (dCondS x2) (.slice f x2.length g) → Calls Tryz.prog 21 #[.slice b x2.length e, .slice f x2.length g] W fun e w' => e = .returned (.bool true) ∧ Below W.heap.size W w') := fun W b e f g h i => eqDCondS x2 b e f g _ _ W HO2.out h i
  have CE : Hid (∀ W, (Below w.heap.size w W ∧ W.heap[w.heap.size]? = some (.cells #[.string ⟨x0.nm.toArray⟩, .slice a0_1 x0.cols.length c0_1, .slice a0_2 x0.uq.length c0_2, .bool x0.rt] 25) ∧ W.heap[w.heap.size + 1]? = some (.cells #[.int .i64 x1.id, .slice a1_1 x1.cells.length c1_1] 28)) → (W.cell? ⟨w.heap.size, 0, none⟩ = some (.string ⟨x0.nm.toArray⟩) ∧ W.cell? ⟨w.heap.size, 1, none⟩ = some (.slice a0_1 x0.cols.length c0_1) ∧ W.cell? ⟨w.heap.size, 2, none⟩ = some (.slice a0_2 x0.uq.length c0_2) ∧ W.cell? ⟨w.heap.size, 3, none⟩ = some (.bool x0.rt) ∧ W.cell? ⟨w.heap.size + 1, 0, none⟩ = some (.int .i64 x1.id) ∧ W.cell? ⟨w.heap.size + 1, 1, none⟩ = some (.slice a1_1 x1.cells.length c1_1))) := fun W h => ⟨cell_at (o := 0) h.2.1 rfl, cell_at (o := 1) h.2.1 rfl, cell_at (o := 2) h.2.1 rfl, cell_at (o := 3) h.2.1 rfl, cell_at (o := 0) h.2.2 rfl, cell_at (o := 1) h.2.2 rfl⟩
  have hx := AS2.out
  refine wp_region_held_drew (S := (fun W => W.cell? ⟨w.heap.size, 0, none⟩ = some (.string ⟨x0.nm.toArray⟩) ∧ W.cell? ⟨w.heap.size, 1, none⟩ = some (.slice a0_1 x0.cols.length c0_1) ∧ W.cell? ⟨w.heap.size, 2, none⟩ = some (.slice a0_2 x0.uq.length c0_2) ∧ W.cell? ⟨w.heap.size, 3, none⟩ = some (.bool x0.rt) ∧ W.cell? ⟨w.heap.size + 1, 0, none⟩ = some (.int .i64 x1.id) ∧ W.cell? ⟨w.heap.size + 1, 1, none⟩ = some (.slice a1_1 x1.cells.length c1_1))) (by kernel_rfl) ?_ (fun hHeld => ?_)
  · (first | exact CE.out _ hx | exact CE.out _ (ALAT.out _ _ hx (Below.refl _ _).drew))
  refine wpAnyH_take (i := 0) (v := ?_) rfl (by kernel_rfl) (by kernel_rfl) (by kernel_rfl) (fun _ _ _ h => h) (Or.inl ⟨by kernel_rfl, ?_⟩) (by assumption) ?_
  rotate_left
  · (intro wS hSw; (try dsimp only at hSw); go_simp <;> with_reducible rfl)
  try simp only [Act.put, tkS]
  refine wpAnyH_take (i := 2) (v := ?_) rfl (by kernel_rfl) (by kernel_rfl) (by kernel_rfl) (fun _ _ _ h => h) (Or.inl ⟨by kernel_rfl, ?_⟩) (by assumption) ?_
  rotate_left
  · (intro wS hSw; (try dsimp only at hSw); go_simp <;> with_reducible rfl)
  try simp only [Act.put, tkS]
  refine wpAnyH_take (i := 4) (v := ?_) rfl (by kernel_rfl) (by kernel_rfl) (by kernel_rfl) (fun _ _ _ h => h) (Or.inl ⟨by kernel_rfl, ?_⟩) (by assumption) ?_
  rotate_left
  · (intro wS hSw; (try dsimp only at hSw); go_simp <;> with_reducible rfl)
  try simp only [Act.put, tkS]
  refine wpAnyH_ready (rs := [1]) (by kernel_rfl) (by simp) (AllReadyH.cons rfl (fun K hK => ?_) AllReadyH.nil)
  go_simp
  (go_at_call 10; refine (TO0.out _ (by first | exact hx | exact ALAT.out _ _ hx (Below.refl _ _).drew)).mono ?_; rintro e wt0 ⟨p0_1, p0_2, rfl, ho0, hB0, hA0⟩; clear hx; have hx := hA0; clear hA0; have RC0_1 : Hid (Rd _ (fun _ => True) (dColumnS x0.cols) (.slice (some ⟨p0_1, 0, none⟩) x0.cols.length x0.cols.length)) := (Owns.one ho0 (j := 1) (by omega)).rd'.any; have RC0_2 : Hid (Rd _ (fun _ => True) (dIntS x0.uq) (.slice (some ⟨p0_2, 0, none⟩) x0.uq.length x0.uq.length)) := (Owns.one ho0 (j := 2) (by omega)).rd'.any; clear ho0; clear hB0)
  refine hK.out _ _ ?_ (fun hHeld => ?_)
  · (first | exact CE.out _ hx | exact CE.out _ (ALAT.out _ _ hx (Below.refl _ _).drew))
  clear hK K
  try simp only [Act.put, tkS]
  refine wpAnyH_ready (rs := [3]) (by kernel_rfl) (by simp) (AllReadyH.cons rfl (fun K hK => ?_) AllReadyH.nil)
  go_simp
  (go_at_call 11; refine (TO1.out _ (by first | exact hx | exact ALAT.out _ _ hx (Below.refl _ _).drew)).mono ?_; rintro e wt1 ⟨p1_1, rfl, ho1, hB1, hA1⟩; clear hx; have hx := hA1; clear hA1; have RC1_1 : Hid (Rd _ (fun _ => True) (dAtomSS x1.cells) (.slice (some ⟨p1_1, 0, none⟩) x1.cells.length x1.cells.length)) := (Owns.one ho1 (j := 1) (by omega)).rd'.any; have RE0_1 := Lib.hid (Rd.later RC0_1.out (by first | exact hB1 | exact (Below.refl _ _).drew.trans hB1)); clear RC0_1; have RC0_1 := RE0_1; clear RE0_1; have RE0_2 := Lib.hid (Rd.later RC0_2.out (by first | exact hB1 | exact (Below.refl _ _).drew.trans hB1)); clear RC0_2; have RC0_2 := RE0_2; clear RE0_2; clear ho1; clear hB1)
  refine hK.out _ _ ?_ (fun hHeld => ?_)
  · (first | exact CE.out _ hx | exact CE.out _ (ALAT.out _ _ hx (Below.refl _ _).drew))
  clear hK K
  try simp only [Act.put, tkS]
  refine wpAnyH_ready (rs := [5]) (by kernel_rfl) (by simp) (AllReadyH.cons rfl (fun K hK => ?_) AllReadyH.nil)
  go_simp
  (go_at_call 19; refine (TO2.out _ (by first | exact hx | exact ALAT.out _ _ hx (Below.refl _ _).drew)).mono ?_; rintro e wt2 ⟨p2_, rfl, ho2, hB2, hA2⟩; clear hx; have hx := hA2; clear hA2; have RC2_ : Hid (Rd _ (fun _ => True) (dCondS x2) (.slice (some ⟨p2_, 0, none⟩) x2.length x2.length)) := ho2.rd'.any; have RE0_1 := Lib.hid (Rd.later RC0_1.out (by first | exact hB2 | exact (Below.refl _ _).drew.trans hB2)); clear RC0_1; have RC0_1 := RE0_1; clear RE0_1; have RE0_2 := Lib.hid (Rd.later RC0_2.out (by first | exact hB2 | exact (Below.refl _ _).drew.trans hB2)); clear RC0_2; have RC0_2 := RE0_2; clear RE0_2; have RE1_1 := Lib.hid (Rd.later RC1_1.out (by first | exact hB2 | exact (Below.refl _ _).drew.trans hB2)); clear RC1_1; have RC1_1 := RE1_1; clear RE1_1; clear ho2; clear hB2)
  refine hK.out _ _ ?_ (fun hHeld => ?_)
  · (first | exact CE.out _ hx | exact CE.out _ (ALAT.out _ _ hx (Below.refl _ _).drew))
  clear hK K
  try simp only [Act.put, tkS]
  refine wpAnyH_ready (rs := [6]) (by kernel_rfl) (by simp) (AllReadyH.cons rfl (fun K hK => ?_) AllReadyH.nil)
  go_simp
  (go_at_call 18; refine (CS.out _ _ _ _ _ _ _ _ _ (by first | exact RC0_1.out | exact RC0_1.out.later (Below.refl _ _).drew) (by first | exact RC0_2.out | exact RC0_2.out.later (Below.refl _ _).drew) (by first | exact RC1_1.out | exact RC1_1.out.later (Below.refl _ _).drew) (by first | exact RC2_.out | exact RC2_.out.later (Below.refl _ _).drew)).mono ?_; rintro e w2 ⟨rfl, hB2⟩; have h2 := ALAT.out _ _ hx (by first | exact hB2 | exact (Below.refl _ _).drew.trans hB2); clear hx hB2; have hx := h2; clear h2)
  refine hK.out _ _ ?_ (fun hHeld => ?_)
  · (first | exact CE.out _ hx | exact CE.out _ (ALAT.out _ _ hx (Below.refl _ _).drew))
  clear hK K
  try simp only [Act.put, tkS]
  refine wpAnyH_take (i := 7) (v := ?_) rfl (by kernel_rfl) (by kernel_rfl) (by kernel_rfl) (fun _ _ _ h => h) (Or.inl ⟨by kernel_rfl, ?_⟩) (by assumption) ?_
  rotate_left
  · (intro wS hSw; (try dsimp only at hSw); go_simp <;> with_reducible rfl)
  try simp only [Act.put, tkS]
  refine wpAnyH_take (i := 8) (v := ?_) rfl (by kernel_rfl) (by kernel_rfl) (by kernel_rfl) (fun _ _ _ h => h) (Or.inl ⟨by kernel_rfl, ?_⟩) (by assumption) ?_
  rotate_left
  · (intro wS hSw; (try dsimp only at hSw); go_simp <;> with_reducible rfl)
  try simp only [Act.put, tkS]
  refine wpAnyH_take (i := 9) (v := ?_) rfl (by kernel_rfl) (by kernel_rfl) (by kernel_rfl) (fun _ _ _ h => h) (Or.inl ⟨by kernel_rfl, ?_⟩) (by assumption) ?_
  rotate_left
  · (intro wS hSw; (try dsimp only at hSw); go_simp <;> with_reducible rfl)
  try simp only [Act.put, tkS]
  refine wpAnyH_take (i := 10) (v := ?_) rfl (by kernel_rfl) (by kernel_rfl) (by kernel_rfl) (fun _ _ _ h => h) (Or.inl ⟨by kernel_rfl, ?_⟩) (by assumption) ?_
  rotate_left
  · (intro wS hSw; (try dsimp only at hSw); go_simp <;> with_reducible rfl)
  try simp only [Act.put, tkS]
  refine wpAnyH_take (i := 11) (v := ?_) rfl (by kernel_rfl) (by kernel_rfl) (by kernel_rfl) (fun _ _ _ h => h) (Or.inl ⟨by kernel_rfl, ?_⟩) (by assumption) ?_
  rotate_left
  · (intro wS hSw; (try dsimp only at hSw); go_simp <;> with_reducible rfl)
  try simp only [Act.put, tkS]
  refine wpAnyH_done (by kernel_rfl) ?_ _
  clear AS2
  have A2 := Lib.hid hx
  clear hx x0_0 x0_1 x0_2 x0_3 x1_0 x1_1 RC0_1 RC0_2 RC1_1 RC2_
  have x0_0 := cell_at (o := 0) A2.out.2.1 rfl
  have x0_1 := cell_at (o := 1) A2.out.2.1 rfl
  have x0_2 := cell_at (o := 2) A2.out.2.1 rfl
  have x0_3 := cell_at (o := 3) A2.out.2.1 rfl
  have x1_0 := cell_at (o := 0) A2.out.2.2 rfl
  have x1_1 := cell_at (o := 1) A2.out.2.2 rfl
  go_wp2_with fail
  refine (TO0.out _ (by first | exact A2.out | exact ALAT.out _ _ A2.out (Below.refl _ _).drew)).mono ?_
  rintro e wx0 ⟨p0_1, p0_2, rfl, ho, hB, hA⟩
  have XS0L : Hid (∀ W W', (Below w.heap.size w W ∧ W.heap[w.heap.size]? = some (.cells #[.string ⟨x0.nm.toArray⟩, .slice a0_1 x0.cols.length c0_1, .slice a0_2 x0.uq.length c0_2, .bool x0.rt] 25) ∧ W.heap[w.heap.size + 1]? = some (.cells #[.int .i64 x1.id, .slice a1_1 x1.cells.length c1_1] 28) ∧ W.heap[wx0.heap.size]? = some (.cells #[.string ⟨x0.nm.toArray⟩, .slice (some ⟨p0_1, 0, none⟩) x0.cols.length x0.cols.length, .slice (some ⟨p0_2, 0, none⟩) x0.uq.length x0.uq.length, .bool x0.rt] 39) ∧ Rd W (fun _ => True) (dColumnS x0.cols) (.slice (some ⟨p0_1, 0, none⟩) x0.cols.length x0.cols.length) ∧ Rd W (fun _ => True) (dIntS x0.uq) (.slice (some ⟨p0_2, 0, none⟩) x0.uq.length x0.uq.length)) → Below W.heap.size W W' → (Below w.heap.size w W' ∧ W'.heap[w.heap.size]? = some (.cells #[.string ⟨x0.nm.toArray⟩, .slice a0_1 x0.cols.length c0_1, .slice a0_2 x0.uq.length c0_2, .bool x0.rt] 25) ∧ W'.heap[w.heap.size + 1]? = some (.cells #[.int .i64 x1.id, .slice a1_1 x1.cells.length c1_1] 28) ∧ W'.heap[wx0.heap.size]? = some (.cells #[.string ⟨x0.nm.toArray⟩, .slice (some ⟨p0_1, 0, none⟩) x0.cols.length x0.cols.length, .slice (some ⟨p0_2, 0, none⟩) x0.uq.length x0.uq.length, .bool x0.rt] 39) ∧ Rd W' (fun _ => True) (dColumnS x0.cols) (.slice (some ⟨p0_1, 0, none⟩) x0.cols.length x0.cols.length) ∧ Rd W' (fun _ => True) (dIntS x0.uq) (.slice (some ⟨p0_2, 0, none⟩) x0.uq.length x0.uq.length))) := fun W W' h hB => ⟨h.1.trans (hB.mono h.1.size), heap_keptD h.2.1 hB, heap_keptD h.2.2.1 hB, heap_keptD h.2.2.2.1 hB, h.2.2.2.2.1.later hB, h.2.2.2.2.2.later hB⟩
  have Y0 : Hid (Below w.heap.size w (wx0.alloc (.cells #[.string ⟨x0.nm.toArray⟩, .slice (some ⟨p0_1, 0, none⟩) x0.cols.length x0.cols.length, .slice (some ⟨p0_2, 0, none⟩) x0.uq.length x0.uq.length, .bool x0.rt] 39)) ∧ (wx0.alloc (.cells #[.string ⟨x0.nm.toArray⟩, .slice (some ⟨p0_1, 0, none⟩) x0.cols.length x0.cols.length, .slice (some ⟨p0_2, 0, none⟩) x0.uq.length x0.uq.length, .bool x0.rt] 39)).heap[w.heap.size]? = some (.cells #[.string ⟨x0.nm.toArray⟩, .slice a0_1 x0.cols.length c0_1, .slice a0_2 x0.uq.length c0_2, .bool x0.rt] 25) ∧ (wx0.alloc (.cells #[.string ⟨x0.nm.toArray⟩, .slice (some ⟨p0_1, 0, none⟩) x0.cols.length x0.cols.length, .slice (some ⟨p0_2, 0, none⟩) x0.uq.length x0.uq.length, .bool x0.rt] 39)).heap[w.heap.size + 1]? = some (.cells #[.int .i64 x1.id, .slice a1_1 x1.cells.length c1_1] 28) ∧ (wx0.alloc (.cells #[.string ⟨x0.nm.toArray⟩, .slice (some ⟨p0_1, 0, none⟩) x0.cols.length x0.cols.length, .slice (some ⟨p0_2, 0, none⟩) x0.uq.length x0.uq.length, .bool x0.rt] 39)).heap[wx0.heap.size]? = some (.cells #[.string ⟨x0.nm.toArray⟩, .slice (some ⟨p0_1, 0, none⟩) x0.cols.length x0.cols.length, .slice (some ⟨p0_2, 0, none⟩) x0.uq.length x0.uq.length, .bool x0.rt] 39) ∧ Rd (wx0.alloc (.cells #[.string ⟨x0.nm.toArray⟩, .slice (some ⟨p0_1, 0, none⟩) x0.cols.length x0.cols.length, .slice (some ⟨p0_2, 0, none⟩) x0.uq.length x0.uq.length, .bool x0.rt] 39)) (fun _ => True) (dColumnS x0.cols) (.slice (some ⟨p0_1, 0, none⟩) x0.cols.length x0.cols.length) ∧ Rd (wx0.alloc (.cells #[.string ⟨x0.nm.toArray⟩, .slice (some ⟨p0_1, 0, none⟩) x0.cols.length x0.cols.length, .slice (some ⟨p0_2, 0, none⟩) x0.uq.length x0.uq.length, .bool x0.rt] 39)) (fun _ => True) (dIntS x0.uq) (.slice (some ⟨p0_2, 0, none⟩) x0.uq.length x0.uq.length)) := ⟨hA.1.trans ((below_allocD _ _).mono hA.1.size), heap_keptD hA.2.1 (below_allocD _ _), heap_keptD hA.2.2 (below_allocD _ _), heap_newD _ _, Rd.later ((Owns.one ho (j := 1) (by omega)).rd'.any) (below_allocD _ _), Rd.later ((Owns.one ho (j := 2) (by omega)).rd'.any) (below_allocD _ _)⟩
  clear hB hA ho A2 x0_0 x0_1 x0_2 x0_3 x1_0 x1_1
  have x0_0 := cell_at (o := 0) Y0.out.2.1 rfl
  have x0_1 := cell_at (o := 1) Y0.out.2.1 rfl
  have x0_2 := cell_at (o := 2) Y0.out.2.1 rfl
  have x0_3 := cell_at (o := 3) Y0.out.2.1 rfl
  have x1_0 := cell_at (o := 0) Y0.out.2.2.1 rfl
  have x1_1 := cell_at (o := 1) Y0.out.2.2.1 rfl
  have y0_0 := cell_at (o := 0) Y0.out.2.2.2.1 rfl
  have y0_1 := cell_at (o := 1) Y0.out.2.2.2.1 rfl
  have y0_2 := cell_at (o := 2) Y0.out.2.2.2.1 rfl
  have y0_3 := cell_at (o := 3) Y0.out.2.2.2.1 rfl
  go_wp2_with fail
  refine (TO1.out _ ⟨Y0.out.1, Y0.out.2.1, Y0.out.2.2.1⟩).mono ?_
  rintro e wx1 ⟨p1_1, rfl, ho, hB, hA⟩
  have XO := XS0L.out _ _ Y0.out hB
  have XS1L : Hid (∀ W W', (Below w.heap.size w W ∧ W.heap[w.heap.size]? = some (.cells #[.string ⟨x0.nm.toArray⟩, .slice a0_1 x0.cols.length c0_1, .slice a0_2 x0.uq.length c0_2, .bool x0.rt] 25) ∧ W.heap[w.heap.size + 1]? = some (.cells #[.int .i64 x1.id, .slice a1_1 x1.cells.length c1_1] 28) ∧ W.heap[wx0.heap.size]? = some (.cells #[.string ⟨x0.nm.toArray⟩, .slice (some ⟨p0_1, 0, none⟩) x0.cols.length x0.cols.length, .slice (some ⟨p0_2, 0, none⟩) x0.uq.length x0.uq.length, .bool x0.rt] 39) ∧ Rd W (fun _ => True) (dColumnS x0.cols) (.slice (some ⟨p0_1, 0, none⟩) x0.cols.length x0.cols.length) ∧ Rd W (fun _ => True) (dIntS x0.uq) (.slice (some ⟨p0_2, 0, none⟩) x0.uq.length x0.uq.length) ∧ W.heap[wx1.heap.size]? = some (.cells #[.int .i64 x1.id, .slice (some ⟨p1_1, 0, none⟩) x1.cells.length x1.cells.length] 43) ∧ Rd W (fun _ => True) (dAtomSS x1.cells) (.slice (some ⟨p1_1, 0, none⟩) x1.cells.length x1.cells.length)) → Below W.heap.size W W' → (Below w.heap.size w W' ∧ W'.heap[w.heap.size]? = some (.cells #[.string ⟨x0.nm.toArray⟩, .slice a0_1 x0.cols.length c0_1, .slice a0_2 x0.uq.length c0_2, .bool x0.rt] 25) ∧ W'.heap[w.heap.size + 1]? = some (.cells #[.int .i64 x1.id, .slice a1_1 x1.cells.length c1_1] 28) ∧ W'.heap[wx0.heap.size]? = some (.cells #[.string ⟨x0.nm.toArray⟩, .slice (some ⟨p0_1, 0, none⟩) x0.cols.length x0.cols.length, .slice (some ⟨p0_2, 0, none⟩) x0.uq.length x0.uq.length, .bool x0.rt] 39) ∧ Rd W' (fun _ => True) (dColumnS x0.cols) (.slice (some ⟨p0_1, 0, none⟩) x0.cols.length x0.cols.length) ∧ Rd W' (fun _ => True) (dIntS x0.uq) (.slice (some ⟨p0_2, 0, none⟩) x0.uq.length x0.uq.length) ∧ W'.heap[wx1.heap.size]? = some (.cells #[.int .i64 x1.id, .slice (some ⟨p1_1, 0, none⟩) x1.cells.length x1.cells.length] 43) ∧ Rd W' (fun _ => True) (dAtomSS x1.cells) (.slice (some ⟨p1_1, 0, none⟩) x1.cells.length x1.cells.length))) := fun W W' h hB => ⟨h.1.trans (hB.mono h.1.size), heap_keptD h.2.1 hB, heap_keptD h.2.2.1 hB, heap_keptD h.2.2.2.1 hB, h.2.2.2.2.1.later hB, h.2.2.2.2.2.1.later hB, heap_keptD h.2.2.2.2.2.2.1 hB, h.2.2.2.2.2.2.2.later hB⟩
  have Y1 : Hid (Below w.heap.size w (wx1.alloc (.cells #[.int .i64 x1.id, .slice (some ⟨p1_1, 0, none⟩) x1.cells.length x1.cells.length] 43)) ∧ (wx1.alloc (.cells #[.int .i64 x1.id, .slice (some ⟨p1_1, 0, none⟩) x1.cells.length x1.cells.length] 43)).heap[w.heap.size]? = some (.cells #[.string ⟨x0.nm.toArray⟩, .slice a0_1 x0.cols.length c0_1, .slice a0_2 x0.uq.length c0_2, .bool x0.rt] 25) ∧ (wx1.alloc (.cells #[.int .i64 x1.id, .slice (some ⟨p1_1, 0, none⟩) x1.cells.length x1.cells.length] 43)).heap[w.heap.size + 1]? = some (.cells #[.int .i64 x1.id, .slice a1_1 x1.cells.length c1_1] 28) ∧ (wx1.alloc (.cells #[.int .i64 x1.id, .slice (some ⟨p1_1, 0, none⟩) x1.cells.length x1.cells.length] 43)).heap[wx0.heap.size]? = some (.cells #[.string ⟨x0.nm.toArray⟩, .slice (some ⟨p0_1, 0, none⟩) x0.cols.length x0.cols.length, .slice (some ⟨p0_2, 0, none⟩) x0.uq.length x0.uq.length, .bool x0.rt] 39) ∧ Rd (wx1.alloc (.cells #[.int .i64 x1.id, .slice (some ⟨p1_1, 0, none⟩) x1.cells.length x1.cells.length] 43)) (fun _ => True) (dColumnS x0.cols) (.slice (some ⟨p0_1, 0, none⟩) x0.cols.length x0.cols.length) ∧ Rd (wx1.alloc (.cells #[.int .i64 x1.id, .slice (some ⟨p1_1, 0, none⟩) x1.cells.length x1.cells.length] 43)) (fun _ => True) (dIntS x0.uq) (.slice (some ⟨p0_2, 0, none⟩) x0.uq.length x0.uq.length) ∧ (wx1.alloc (.cells #[.int .i64 x1.id, .slice (some ⟨p1_1, 0, none⟩) x1.cells.length x1.cells.length] 43)).heap[wx1.heap.size]? = some (.cells #[.int .i64 x1.id, .slice (some ⟨p1_1, 0, none⟩) x1.cells.length x1.cells.length] 43) ∧ Rd (wx1.alloc (.cells #[.int .i64 x1.id, .slice (some ⟨p1_1, 0, none⟩) x1.cells.length x1.cells.length] 43)) (fun _ => True) (dAtomSS x1.cells) (.slice (some ⟨p1_1, 0, none⟩) x1.cells.length x1.cells.length)) := ⟨XO.1.trans ((below_allocD _ _).mono XO.1.size), heap_keptD XO.2.1 (below_allocD _ _), heap_keptD XO.2.2.1 (below_allocD _ _), heap_keptD XO.2.2.2.1 (below_allocD _ _), XO.2.2.2.2.1.later (below_allocD _ _), XO.2.2.2.2.2.later (below_allocD _ _), heap_newD _ _, Rd.later ((Owns.one ho (j := 1) (by omega)).rd'.any) (below_allocD _ _)⟩
  clear hB hA ho XO Y0 XS0L x0_0 x0_1 x0_2 x0_3 x1_0 x1_1 y0_0 y0_1 y0_2 y0_3
  have x0_0 := cell_at (o := 0) Y1.out.2.1 rfl
  have x0_1 := cell_at (o := 1) Y1.out.2.1 rfl
  have x0_2 := cell_at (o := 2) Y1.out.2.1 rfl
  have x0_3 := cell_at (o := 3) Y1.out.2.1 rfl
  have x1_0 := cell_at (o := 0) Y1.out.2.2.1 rfl
  have x1_1 := cell_at (o := 1) Y1.out.2.2.1 rfl
  have y0_0 := cell_at (o := 0) Y1.out.2.2.2.1 rfl
  have y0_1 := cell_at (o := 1) Y1.out.2.2.2.1 rfl
  have y0_2 := cell_at (o := 2) Y1.out.2.2.2.1 rfl
  have y0_3 := cell_at (o := 3) Y1.out.2.2.2.1 rfl
  have y1_0 := cell_at (o := 0) Y1.out.2.2.2.2.2.2.1 rfl
  have y1_1 := cell_at (o := 1) Y1.out.2.2.2.2.2.2.1 rfl
  go_wp2_with fail
  refine (TO2.out _ ⟨Y1.out.1, Y1.out.2.1, Y1.out.2.2.1⟩).mono ?_
  rintro e wx2 ⟨p2_, rfl, ho, hB, hA⟩
  have XO := XS1L.out _ _ Y1.out hB
  have XS2L : Hid (∀ W W', (Below w.heap.size w W ∧ W.heap[w.heap.size]? = some (.cells #[.string ⟨x0.nm.toArray⟩, .slice a0_1 x0.cols.length c0_1, .slice a0_2 x0.uq.length c0_2, .bool x0.rt] 25) ∧ W.heap[w.heap.size + 1]? = some (.cells #[.int .i64 x1.id, .slice a1_1 x1.cells.length c1_1] 28) ∧ W.heap[wx0.heap.size]? = some (.cells #[.string ⟨x0.nm.toArray⟩, .slice (some ⟨p0_1, 0, none⟩) x0.cols.length x0.cols.length, .slice (some ⟨p0_2, 0, none⟩) x0.uq.length x0.uq.length, .bool x0.rt] 39) ∧ Rd W (fun _ => True) (dColumnS x0.cols) (.slice (some ⟨p0_1, 0, none⟩) x0.cols.length x0.cols.length) ∧ Rd W (fun _ => True) (dIntS x0.uq) (.slice (some ⟨p0_2, 0, none⟩) x0.uq.length x0.uq.length) ∧ W.heap[wx1.heap.size]? = some (.cells #[.int .i64 x1.id, .slice (some ⟨p1_1, 0, none⟩) x1.cells.length x1.cells.length] 43) ∧ Rd W (fun _ => True) (dAtomSS x1.cells) (.slice (some ⟨p1_1, 0, none⟩) x1.cells.length x1.cells.length) ∧ Rd W (fun _ => True) (dCondS x2) (.slice (some ⟨p2_, 0, none⟩) x2.length x2.length)) → Below W.heap.size W W' → (Below w.heap.size w W' ∧ W'.heap[w.heap.size]? = some (.cells #[.string ⟨x0.nm.toArray⟩, .slice a0_1 x0.cols.length c0_1, .slice a0_2 x0.uq.length c0_2, .bool x0.rt] 25) ∧ W'.heap[w.heap.size + 1]? = some (.cells #[.int .i64 x1.id, .slice a1_1 x1.cells.length c1_1] 28) ∧ W'.heap[wx0.heap.size]? = some (.cells #[.string ⟨x0.nm.toArray⟩, .slice (some ⟨p0_1, 0, none⟩) x0.cols.length x0.cols.length, .slice (some ⟨p0_2, 0, none⟩) x0.uq.length x0.uq.length, .bool x0.rt] 39) ∧ Rd W' (fun _ => True) (dColumnS x0.cols) (.slice (some ⟨p0_1, 0, none⟩) x0.cols.length x0.cols.length) ∧ Rd W' (fun _ => True) (dIntS x0.uq) (.slice (some ⟨p0_2, 0, none⟩) x0.uq.length x0.uq.length) ∧ W'.heap[wx1.heap.size]? = some (.cells #[.int .i64 x1.id, .slice (some ⟨p1_1, 0, none⟩) x1.cells.length x1.cells.length] 43) ∧ Rd W' (fun _ => True) (dAtomSS x1.cells) (.slice (some ⟨p1_1, 0, none⟩) x1.cells.length x1.cells.length) ∧ Rd W' (fun _ => True) (dCondS x2) (.slice (some ⟨p2_, 0, none⟩) x2.length x2.length))) := fun W W' h hB => ⟨h.1.trans (hB.mono h.1.size), heap_keptD h.2.1 hB, heap_keptD h.2.2.1 hB, heap_keptD h.2.2.2.1 hB, h.2.2.2.2.1.later hB, h.2.2.2.2.2.1.later hB, heap_keptD h.2.2.2.2.2.2.1 hB, h.2.2.2.2.2.2.2.1.later hB, h.2.2.2.2.2.2.2.2.later hB⟩
  have Y2 : Hid (Below w.heap.size w wx2 ∧ wx2.heap[w.heap.size]? = some (.cells #[.string ⟨x0.nm.toArray⟩, .slice a0_1 x0.cols.length c0_1, .slice a0_2 x0.uq.length c0_2, .bool x0.rt] 25) ∧ wx2.heap[w.heap.size + 1]? = some (.cells #[.int .i64 x1.id, .slice a1_1 x1.cells.length c1_1] 28) ∧ wx2.heap[wx0.heap.size]? = some (.cells #[.string ⟨x0.nm.toArray⟩, .slice (some ⟨p0_1, 0, none⟩) x0.cols.length x0.cols.length, .slice (some ⟨p0_2, 0, none⟩) x0.uq.length x0.uq.length, .bool x0.rt] 39) ∧ Rd wx2 (fun _ => True) (dColumnS x0.cols) (.slice (some ⟨p0_1, 0, none⟩) x0.cols.length x0.cols.length) ∧ Rd wx2 (fun _ => True) (dIntS x0.uq) (.slice (some ⟨p0_2, 0, none⟩) x0.uq.length x0.uq.length) ∧ wx2.heap[wx1.heap.size]? = some (.cells #[.int .i64 x1.id, .slice (some ⟨p1_1, 0, none⟩) x1.cells.length x1.cells.length] 43) ∧ Rd wx2 (fun _ => True) (dAtomSS x1.cells) (.slice (some ⟨p1_1, 0, none⟩) x1.cells.length x1.cells.length) ∧ Rd wx2 (fun _ => True) (dCondS x2) (.slice (some ⟨p2_, 0, none⟩) x2.length x2.length)) := ⟨XO.1.trans ((Below.refl _ _).mono XO.1.size), heap_keptD XO.2.1 (Below.refl _ _), heap_keptD XO.2.2.1 (Below.refl _ _), heap_keptD XO.2.2.2.1 (Below.refl _ _), XO.2.2.2.2.1.later (Below.refl _ _), XO.2.2.2.2.2.1.later (Below.refl _ _), heap_keptD XO.2.2.2.2.2.2.1 (Below.refl _ _), XO.2.2.2.2.2.2.2.later (Below.refl _ _), Rd.later (ho.rd'.any) (Below.refl _ _)⟩
  clear hB hA ho XO Y1 XS1L x0_0 x0_1 x0_2 x0_3 x1_0 x1_1 y0_0 y0_1 y0_2 y0_3 y1_0 y1_1
  have x0_0 := cell_at (o := 0) Y2.out.2.1 rfl
  have x0_1 := cell_at (o := 1) Y2.out.2.1 rfl
  have x0_2 := cell_at (o := 2) Y2.out.2.1 rfl
  have x0_3 := cell_at (o := 3) Y2.out.2.1 rfl
  have x1_0 := cell_at (o := 0) Y2.out.2.2.1 rfl
  have x1_1 := cell_at (o := 1) Y2.out.2.2.1 rfl
  have y0_0 := cell_at (o := 0) Y2.out.2.2.2.1 rfl
  have y0_1 := cell_at (o := 1) Y2.out.2.2.2.1 rfl
  have y0_2 := cell_at (o := 2) Y2.out.2.2.2.1 rfl
  have y0_3 := cell_at (o := 3) Y2.out.2.2.2.1 rfl
  have y1_0 := cell_at (o := 0) Y2.out.2.2.2.2.2.2.1 rfl
  have y1_1 := cell_at (o := 1) Y2.out.2.2.2.2.2.2.1 rfl
  go_wp2_with fail
  refine (CI.out _ _ _ _ _ _ _ _ _ Y2.out.2.2.2.2.1 Y2.out.2.2.2.2.2.1 Y2.out.2.2.2.2.2.2.2.1 Y2.out.2.2.2.2.2.2.2.2 Y2.out.1).mono ?_
  rintro e wg ⟨rfl, hB⟩
  have Z := Lib.hid (XS2L.out _ _ Y2.out hB)
  clear hB Y2 x0_0 x0_1 x0_2 x0_3 x1_0 x1_1 y0_0 y0_1 y0_2 y0_3 y1_0 y1_1
  have x0_0 := cell_at (o := 0) Z.out.2.1 rfl
  have x0_1 := cell_at (o := 1) Z.out.2.1 rfl
  have x0_2 := cell_at (o := 2) Z.out.2.1 rfl
  have x0_3 := cell_at (o := 3) Z.out.2.1 rfl
  have x1_0 := cell_at (o := 0) Z.out.2.2.1 rfl
  have x1_1 := cell_at (o := 1) Z.out.2.2.1 rfl
  have y0_0 := cell_at (o := 0) Z.out.2.2.2.1 rfl
  have y0_1 := cell_at (o := 1) Z.out.2.2.2.1 rfl
  have y0_2 := cell_at (o := 2) Z.out.2.2.2.1 rfl
  have y0_3 := cell_at (o := 3) Z.out.2.2.2.1 rfl
  have y1_0 := cell_at (o := 0) Z.out.2.2.2.2.2.2.1 rfl
  have y1_1 := cell_at (o := 1) Z.out.2.2.2.2.2.2.1 rfl
  go_wp2_with fail
  have CE0 : Hid (∀ W, (Below w.heap.size w W ∧ W.heap[w.heap.size]? = some (.cells #[.string ⟨x0.nm.toArray⟩, .slice a0_1 x0.cols.length c0_1, .slice a0_2 x0.uq.length c0_2, .bool x0.rt] 25) ∧ W.heap[w.heap.size + 1]? = some (.cells #[.int .i64 x1.id, .slice a1_1 x1.cells.length c1_1] 28) ∧ W.heap[wx0.heap.size]? = some (.cells #[.string ⟨x0.nm.toArray⟩, .slice (some ⟨p0_1, 0, none⟩) x0.cols.length x0.cols.length, .slice (some ⟨p0_2, 0, none⟩) x0.uq.length x0.uq.length, .bool x0.rt] 39) ∧ Rd W (fun _ => True) (dColumnS x0.cols) (.slice (some ⟨p0_1, 0, none⟩) x0.cols.length x0.cols.length) ∧ Rd W (fun _ => True) (dIntS x0.uq) (.slice (some ⟨p0_2, 0, none⟩) x0.uq.length x0.uq.length) ∧ W.heap[wx1.heap.size]? = some (.cells #[.int .i64 x1.id, .slice (some ⟨p1_1, 0, none⟩) x1.cells.length x1.cells.length] 43) ∧ Rd W (fun _ => True) (dAtomSS x1.cells) (.slice (some ⟨p1_1, 0, none⟩) x1.cells.length x1.cells.length) ∧ Rd W (fun _ => True) (dCondS x2) (.slice (some ⟨p2_, 0, none⟩) x2.length x2.length)) → (W.cell? ⟨w.heap.size, 0, none⟩ = some (.string ⟨x0.nm.toArray⟩) ∧ W.cell? ⟨w.heap.size, 1, none⟩ = some (.slice a0_1 x0.cols.length c0_1) ∧ W.cell? ⟨w.heap.size, 2, none⟩ = some (.slice a0_2 x0.uq.length c0_2) ∧ W.cell? ⟨w.heap.size, 3, none⟩ = some (.bool x0.rt) ∧ W.cell? ⟨wx0.heap.size, 0, none⟩ = some (.string ⟨x0.nm.toArray⟩) ∧ W.cell? ⟨wx0.heap.size, 1, none⟩ = some (.slice (some ⟨p0_1, 0, none⟩) x0.cols.length x0.cols.length) ∧ W.cell? ⟨wx0.heap.size, 2, none⟩ = some (.slice (some ⟨p0_2, 0, none⟩) x0.uq.length x0.uq.length) ∧ W.cell? ⟨wx0.heap.size, 3, none⟩ = some (.bool x0.rt))) := fun W h => ⟨cell_at (o := 0) h.2.1 rfl, cell_at (o := 1) h.2.1 rfl, cell_at (o := 2) h.2.1 rfl, cell_at (o := 3) h.2.1 rfl, cell_at (o := 0) h.2.2.2.1 rfl, cell_at (o := 1) h.2.2.2.1 rfl, cell_at (o := 2) h.2.2.2.1 rfl, cell_at (o := 3) h.2.2.2.1 rfl⟩
  have hx := Z.out
  clear Z
  have XA : Hid (∀ W, (Below w.heap.size w W ∧ W.heap[w.heap.size]? = some (.cells #[.string ⟨x0.nm.toArray⟩, .slice a0_1 x0.cols.length c0_1, .slice a0_2 x0.uq.length c0_2, .bool x0.rt] 25) ∧ W.heap[w.heap.size + 1]? = some (.cells #[.int .i64 x1.id, .slice a1_1 x1.cells.length c1_1] 28) ∧ W.heap[wx0.heap.size]? = some (.cells #[.string ⟨x0.nm.toArray⟩, .slice (some ⟨p0_1, 0, none⟩) x0.cols.length x0.cols.length, .slice (some ⟨p0_2, 0, none⟩) x0.uq.length x0.uq.length, .bool x0.rt] 39) ∧ Rd W (fun _ => True) (dColumnS x0.cols) (.slice (some ⟨p0_1, 0, none⟩) x0.cols.length x0.cols.length) ∧ Rd W (fun _ => True) (dIntS x0.uq) (.slice (some ⟨p0_2, 0, none⟩) x0.uq.length x0.uq.length) ∧ W.heap[wx1.heap.size]? = some (.cells #[.int .i64 x1.id, .slice (some ⟨p1_1, 0, none⟩) x1.cells.length x1.cells.length] 43) ∧ Rd W (fun _ => True) (dAtomSS x1.cells) (.slice (some ⟨p1_1, 0, none⟩) x1.cells.length x1.cells.length) ∧ Rd W (fun _ => True) (dCondS x2) (.slice (some ⟨p2_, 0, none⟩) x2.length x2.length)) → (Below w.heap.size w W ∧ W.heap[w.heap.size]? = some (.cells #[.string ⟨x0.nm.toArray⟩, .slice a0_1 x0.cols.length c0_1, .slice a0_2 x0.uq.length c0_2, .bool x0.rt] 25) ∧ W.heap[w.heap.size + 1]? = some (.cells #[.int .i64 x1.id, .slice a1_1 x1.cells.length c1_1] 28))) := fun W h => ⟨h.1, h.2.1, h.2.2.1⟩
  refine wp_region_held_drew (S := (fun W => W.cell? ⟨w.heap.size, 0, none⟩ = some (.string ⟨x0.nm.toArray⟩) ∧ W.cell? ⟨w.heap.size, 1, none⟩ = some (.slice a0_1 x0.cols.length c0_1) ∧ W.cell? ⟨w.heap.size, 2, none⟩ = some (.slice a0_2 x0.uq.length c0_2) ∧ W.cell? ⟨w.heap.size, 3, none⟩ = some (.bool x0.rt) ∧ W.cell? ⟨wx0.heap.size, 0, none⟩ = some (.string ⟨x0.nm.toArray⟩) ∧ W.cell? ⟨wx0.heap.size, 1, none⟩ = some (.slice (some ⟨p0_1, 0, none⟩) x0.cols.length x0.cols.length) ∧ W.cell? ⟨wx0.heap.size, 2, none⟩ = some (.slice (some ⟨p0_2, 0, none⟩) x0.uq.length x0.uq.length) ∧ W.cell? ⟨wx0.heap.size, 3, none⟩ = some (.bool x0.rt))) (by kernel_rfl) ?_ (fun hHeld => ?_)
  · (first | exact CE0.out _ hx | exact CE0.out _ (XS2L.out _ _ hx (Below.refl _ _).drew))
  refine wpAnyH_take (i := 0) (v := ?_) rfl (by kernel_rfl) (by kernel_rfl) (by kernel_rfl) (fun _ _ _ h => h) (Or.inl ⟨by kernel_rfl, ?_⟩) (by assumption) ?_
  rotate_left
  · (intro wS hSw; (try dsimp only at hSw); go_simp <;> with_reducible rfl)
  try simp only [Act.put, tkS]
  refine wpAnyH_take (i := 1) (v := ?_) rfl (by kernel_rfl) (by kernel_rfl) (by kernel_rfl) (fun _ _ _ h => h) (Or.inl ⟨by kernel_rfl, ?_⟩) (by assumption) ?_
  rotate_left
  · (intro wS hSw; (try dsimp only at hSw); go_simp <;> with_reducible rfl)
  try simp only [Act.put, tkS]
  refine wpAnyH_ready (rs := [2]) (by kernel_rfl) (by simp) (AllReadyH.cons rfl (fun K hK => ?_) AllReadyH.nil)
  go_simp
  (go_at_call 10; refine (TO0.out _ (by first | exact XA.out _ hx | exact XA.out _ (XS2L.out _ _ hx (Below.refl _ _).drew))).mono ?_; rintro e we0 ⟨s0_1, s0_2, rfl, ho, hB, _⟩; have h2 : Below w.heap.size w we0 ∧ we0.heap[w.heap.size]? = some (.cells #[.string ⟨x0.nm.toArray⟩, .slice a0_1 x0.cols.length c0_1, .slice a0_2 x0.uq.length c0_2, .bool x0.rt] 25) ∧ we0.heap[w.heap.size + 1]? = some (.cells #[.int .i64 x1.id, .slice a1_1 x1.cells.length c1_1] 28) ∧ we0.heap[wx0.heap.size]? = some (.cells #[.string ⟨x0.nm.toArray⟩, .slice (some ⟨p0_1, 0, none⟩) x0.cols.length x0.cols.length, .slice (some ⟨p0_2, 0, none⟩) x0.uq.length x0.uq.length, .bool x0.rt] 39) ∧ Rd we0 (fun _ => True) (dColumnS x0.cols) (.slice (some ⟨p0_1, 0, none⟩) x0.cols.length x0.cols.length) ∧ Rd we0 (fun _ => True) (dIntS x0.uq) (.slice (some ⟨p0_2, 0, none⟩) x0.uq.length x0.uq.length) ∧ we0.heap[wx1.heap.size]? = some (.cells #[.int .i64 x1.id, .slice (some ⟨p1_1, 0, none⟩) x1.cells.length x1.cells.length] 43) ∧ Rd we0 (fun _ => True) (dAtomSS x1.cells) (.slice (some ⟨p1_1, 0, none⟩) x1.cells.length x1.cells.length) ∧ Rd we0 (fun _ => True) (dCondS x2) (.slice (some ⟨p2_, 0, none⟩) x2.length x2.length) := (by first | exact XS2L.out _ _ hx hB | exact XS2L.out _ _ (XS2L.out _ _ hx (Below.refl _ _).drew) hB); clear hx; have hx := h2; clear h2; have RE0_1 : Hid (Rd _ (fun _ => True) (dColumnS x0.cols) (.slice (some ⟨s0_1, 0, none⟩) x0.cols.length x0.cols.length)) := (Owns.one ho (j := 1) (by omega)).rd'.any; have RE0_2 : Hid (Rd _ (fun _ => True) (dIntS x0.uq) (.slice (some ⟨s0_2, 0, none⟩) x0.uq.length x0.uq.length)) := (Owns.one ho (j := 2) (by omega)).rd'.any; clear hB ho)
  refine hK.out _ _ ?_ (fun hHeld => ?_)
  · (first | exact CE0.out _ hx | exact CE0.out _ (XS2L.out _ _ hx (Below.refl _ _).drew))
  clear hK K
  try simp only [Act.put, tkS]
  refine wpAnyH_ready (rs := [3]) (by kernel_rfl) (by simp) (AllReadyH.cons rfl (fun K hK => ?_) AllReadyH.nil)
  go_simp
  (go_at_call 14; refine (EQ0.out _ _ _ _ _ _ _ _ _ (by first | exact hx.2.2.2.2.1 | exact Rd.later hx.2.2.2.2.1 (Below.refl _ _).drew) (by first | exact hx.2.2.2.2.2.1 | exact Rd.later hx.2.2.2.2.2.1 (Below.refl _ _).drew) (by first | exact RE0_1.out | exact Rd.later RE0_1.out (Below.refl _ _).drew) (by first | exact RE0_2.out | exact Rd.later RE0_2.out (Below.refl _ _).drew)).mono ?_; rintro e wf0 ⟨rfl, hB⟩; have h2 : Below w.heap.size w wf0 ∧ wf0.heap[w.heap.size]? = some (.cells #[.string ⟨x0.nm.toArray⟩, .slice a0_1 x0.cols.length c0_1, .slice a0_2 x0.uq.length c0_2, .bool x0.rt] 25) ∧ wf0.heap[w.heap.size + 1]? = some (.cells #[.int .i64 x1.id, .slice a1_1 x1.cells.length c1_1] 28) ∧ wf0.heap[wx0.heap.size]? = some (.cells #[.string ⟨x0.nm.toArray⟩, .slice (some ⟨p0_1, 0, none⟩) x0.cols.length x0.cols.length, .slice (some ⟨p0_2, 0, none⟩) x0.uq.length x0.uq.length, .bool x0.rt] 39) ∧ Rd wf0 (fun _ => True) (dColumnS x0.cols) (.slice (some ⟨p0_1, 0, none⟩) x0.cols.length x0.cols.length) ∧ Rd wf0 (fun _ => True) (dIntS x0.uq) (.slice (some ⟨p0_2, 0, none⟩) x0.uq.length x0.uq.length) ∧ wf0.heap[wx1.heap.size]? = some (.cells #[.int .i64 x1.id, .slice (some ⟨p1_1, 0, none⟩) x1.cells.length x1.cells.length] 43) ∧ Rd wf0 (fun _ => True) (dAtomSS x1.cells) (.slice (some ⟨p1_1, 0, none⟩) x1.cells.length x1.cells.length) ∧ Rd wf0 (fun _ => True) (dCondS x2) (.slice (some ⟨p2_, 0, none⟩) x2.length x2.length) := (by first | exact XS2L.out _ _ hx hB | exact XS2L.out _ _ (XS2L.out _ _ hx (Below.refl _ _).drew) hB); clear hx hB; have hx := h2; clear h2)
  refine hK.out _ _ ?_ (fun hHeld => ?_)
  · (first | exact CE0.out _ hx | exact CE0.out _ (XS2L.out _ _ hx (Below.refl _ _).drew))
  clear hK K
  try simp only [Act.put, tkS]
  refine wpAnyH_take (i := 4) (v := ?_) rfl (by kernel_rfl) (by kernel_rfl) (by kernel_rfl) (fun _ _ _ h => h) (Or.inl ⟨by kernel_rfl, ?_⟩) (by assumption) ?_
  rotate_left
  · (intro wS hSw; (try dsimp only at hSw); go_simp <;> with_reducible rfl)
  try simp only [Act.put, tkS]
  refine wpAnyH_done (by kernel_rfl) ?_ _
  clear x0_0 x0_1 x0_2 x0_3 x1_0 x1_1 y0_0 y0_1 y0_2 y0_3 y1_0 y1_1 RE0_1 RE0_2
  have x0_0 := cell_at (o := 0) hx.2.1 rfl
  have x0_1 := cell_at (o := 1) hx.2.1 rfl
  have x0_2 := cell_at (o := 2) hx.2.1 rfl
  have x0_3 := cell_at (o := 3) hx.2.1 rfl
  have x1_0 := cell_at (o := 0) hx.2.2.1 rfl
  have x1_1 := cell_at (o := 1) hx.2.2.1 rfl
  have y0_0 := cell_at (o := 0) hx.2.2.2.1 rfl
  have y0_1 := cell_at (o := 1) hx.2.2.2.1 rfl
  have y0_2 := cell_at (o := 2) hx.2.2.2.1 rfl
  have y0_3 := cell_at (o := 3) hx.2.2.2.1 rfl
  have y1_0 := cell_at (o := 0) hx.2.2.2.2.2.2.1 rfl
  have y1_1 := cell_at (o := 1) hx.2.2.2.2.2.2.1 rfl
  go_wp2_with fail
  have CE1 : Hid (∀ W, (Below w.heap.size w W ∧ W.heap[w.heap.size]? = some (.cells #[.string ⟨x0.nm.toArray⟩, .slice a0_1 x0.cols.length c0_1, .slice a0_2 x0.uq.length c0_2, .bool x0.rt] 25) ∧ W.heap[w.heap.size + 1]? = some (.cells #[.int .i64 x1.id, .slice a1_1 x1.cells.length c1_1] 28) ∧ W.heap[wx0.heap.size]? = some (.cells #[.string ⟨x0.nm.toArray⟩, .slice (some ⟨p0_1, 0, none⟩) x0.cols.length x0.cols.length, .slice (some ⟨p0_2, 0, none⟩) x0.uq.length x0.uq.length, .bool x0.rt] 39) ∧ Rd W (fun _ => True) (dColumnS x0.cols) (.slice (some ⟨p0_1, 0, none⟩) x0.cols.length x0.cols.length) ∧ Rd W (fun _ => True) (dIntS x0.uq) (.slice (some ⟨p0_2, 0, none⟩) x0.uq.length x0.uq.length) ∧ W.heap[wx1.heap.size]? = some (.cells #[.int .i64 x1.id, .slice (some ⟨p1_1, 0, none⟩) x1.cells.length x1.cells.length] 43) ∧ Rd W (fun _ => True) (dAtomSS x1.cells) (.slice (some ⟨p1_1, 0, none⟩) x1.cells.length x1.cells.length) ∧ Rd W (fun _ => True) (dCondS x2) (.slice (some ⟨p2_, 0, none⟩) x2.length x2.length)) → (W.cell? ⟨w.heap.size + 1, 0, none⟩ = some (.int .i64 x1.id) ∧ W.cell? ⟨w.heap.size + 1, 1, none⟩ = some (.slice a1_1 x1.cells.length c1_1) ∧ W.cell? ⟨wx1.heap.size, 0, none⟩ = some (.int .i64 x1.id) ∧ W.cell? ⟨wx1.heap.size, 1, none⟩ = some (.slice (some ⟨p1_1, 0, none⟩) x1.cells.length x1.cells.length))) := fun W h => ⟨cell_at (o := 0) h.2.2.1 rfl, cell_at (o := 1) h.2.2.1 rfl, cell_at (o := 0) h.2.2.2.2.2.2.1 rfl, cell_at (o := 1) h.2.2.2.2.2.2.1 rfl⟩
  refine wp_region_held_drew (S := (fun W => W.cell? ⟨w.heap.size + 1, 0, none⟩ = some (.int .i64 x1.id) ∧ W.cell? ⟨w.heap.size + 1, 1, none⟩ = some (.slice a1_1 x1.cells.length c1_1) ∧ W.cell? ⟨wx1.heap.size, 0, none⟩ = some (.int .i64 x1.id) ∧ W.cell? ⟨wx1.heap.size, 1, none⟩ = some (.slice (some ⟨p1_1, 0, none⟩) x1.cells.length x1.cells.length))) (by kernel_rfl) ?_ (fun hHeld => ?_)
  · (first | exact CE1.out _ hx | exact CE1.out _ (XS2L.out _ _ hx (Below.refl _ _).drew))
  refine wpAnyH_take (i := 0) (v := ?_) rfl (by kernel_rfl) (by kernel_rfl) (by kernel_rfl) (fun _ _ _ h => h) (Or.inl ⟨by kernel_rfl, ?_⟩) (by assumption) ?_
  rotate_left
  · (intro wS hSw; (try dsimp only at hSw); go_simp <;> with_reducible rfl)
  try simp only [Act.put, tkS]
  refine wpAnyH_take (i := 1) (v := ?_) rfl (by kernel_rfl) (by kernel_rfl) (by kernel_rfl) (fun _ _ _ h => h) (Or.inl ⟨by kernel_rfl, ?_⟩) (by assumption) ?_
  rotate_left
  · (intro wS hSw; (try dsimp only at hSw); go_simp <;> with_reducible rfl)
  try simp only [Act.put, tkS]
  refine wpAnyH_ready (rs := [2]) (by kernel_rfl) (by simp) (AllReadyH.cons rfl (fun K hK => ?_) AllReadyH.nil)
  go_simp
  (go_at_call 11; refine (TO1.out _ (by first | exact XA.out _ hx | exact XA.out _ (XS2L.out _ _ hx (Below.refl _ _).drew))).mono ?_; rintro e we1 ⟨s1_1, rfl, ho, hB, _⟩; have h2 : Below w.heap.size w we1 ∧ we1.heap[w.heap.size]? = some (.cells #[.string ⟨x0.nm.toArray⟩, .slice a0_1 x0.cols.length c0_1, .slice a0_2 x0.uq.length c0_2, .bool x0.rt] 25) ∧ we1.heap[w.heap.size + 1]? = some (.cells #[.int .i64 x1.id, .slice a1_1 x1.cells.length c1_1] 28) ∧ we1.heap[wx0.heap.size]? = some (.cells #[.string ⟨x0.nm.toArray⟩, .slice (some ⟨p0_1, 0, none⟩) x0.cols.length x0.cols.length, .slice (some ⟨p0_2, 0, none⟩) x0.uq.length x0.uq.length, .bool x0.rt] 39) ∧ Rd we1 (fun _ => True) (dColumnS x0.cols) (.slice (some ⟨p0_1, 0, none⟩) x0.cols.length x0.cols.length) ∧ Rd we1 (fun _ => True) (dIntS x0.uq) (.slice (some ⟨p0_2, 0, none⟩) x0.uq.length x0.uq.length) ∧ we1.heap[wx1.heap.size]? = some (.cells #[.int .i64 x1.id, .slice (some ⟨p1_1, 0, none⟩) x1.cells.length x1.cells.length] 43) ∧ Rd we1 (fun _ => True) (dAtomSS x1.cells) (.slice (some ⟨p1_1, 0, none⟩) x1.cells.length x1.cells.length) ∧ Rd we1 (fun _ => True) (dCondS x2) (.slice (some ⟨p2_, 0, none⟩) x2.length x2.length) := (by first | exact XS2L.out _ _ hx hB | exact XS2L.out _ _ (XS2L.out _ _ hx (Below.refl _ _).drew) hB); clear hx; have hx := h2; clear h2; have RE1_1 : Hid (Rd _ (fun _ => True) (dAtomSS x1.cells) (.slice (some ⟨s1_1, 0, none⟩) x1.cells.length x1.cells.length)) := (Owns.one ho (j := 1) (by omega)).rd'.any; clear hB ho)
  refine hK.out _ _ ?_ (fun hHeld => ?_)
  · (first | exact CE1.out _ hx | exact CE1.out _ (XS2L.out _ _ hx (Below.refl _ _).drew))
  clear hK K
  try simp only [Act.put, tkS]
  refine wpAnyH_ready (rs := [3]) (by kernel_rfl) (by simp) (AllReadyH.cons rfl (fun K hK => ?_) AllReadyH.nil)
  go_simp
  (go_at_call 15; refine (EQ1.out _ _ _ _ _ (by first | exact hx.2.2.2.2.2.2.2.1 | exact Rd.later hx.2.2.2.2.2.2.2.1 (Below.refl _ _).drew) (by first | exact RE1_1.out | exact Rd.later RE1_1.out (Below.refl _ _).drew)).mono ?_; rintro e wf1 ⟨rfl, hB⟩; have h2 : Below w.heap.size w wf1 ∧ wf1.heap[w.heap.size]? = some (.cells #[.string ⟨x0.nm.toArray⟩, .slice a0_1 x0.cols.length c0_1, .slice a0_2 x0.uq.length c0_2, .bool x0.rt] 25) ∧ wf1.heap[w.heap.size + 1]? = some (.cells #[.int .i64 x1.id, .slice a1_1 x1.cells.length c1_1] 28) ∧ wf1.heap[wx0.heap.size]? = some (.cells #[.string ⟨x0.nm.toArray⟩, .slice (some ⟨p0_1, 0, none⟩) x0.cols.length x0.cols.length, .slice (some ⟨p0_2, 0, none⟩) x0.uq.length x0.uq.length, .bool x0.rt] 39) ∧ Rd wf1 (fun _ => True) (dColumnS x0.cols) (.slice (some ⟨p0_1, 0, none⟩) x0.cols.length x0.cols.length) ∧ Rd wf1 (fun _ => True) (dIntS x0.uq) (.slice (some ⟨p0_2, 0, none⟩) x0.uq.length x0.uq.length) ∧ wf1.heap[wx1.heap.size]? = some (.cells #[.int .i64 x1.id, .slice (some ⟨p1_1, 0, none⟩) x1.cells.length x1.cells.length] 43) ∧ Rd wf1 (fun _ => True) (dAtomSS x1.cells) (.slice (some ⟨p1_1, 0, none⟩) x1.cells.length x1.cells.length) ∧ Rd wf1 (fun _ => True) (dCondS x2) (.slice (some ⟨p2_, 0, none⟩) x2.length x2.length) := (by first | exact XS2L.out _ _ hx hB | exact XS2L.out _ _ (XS2L.out _ _ hx (Below.refl _ _).drew) hB); clear hx hB; have hx := h2; clear h2)
  refine hK.out _ _ ?_ (fun hHeld => ?_)
  · (first | exact CE1.out _ hx | exact CE1.out _ (XS2L.out _ _ hx (Below.refl _ _).drew))
  clear hK K
  try simp only [Act.put, tkS]
  refine wpAnyH_take (i := 4) (v := ?_) rfl (by kernel_rfl) (by kernel_rfl) (by kernel_rfl) (fun _ _ _ h => h) (Or.inl ⟨by kernel_rfl, ?_⟩) (by assumption) ?_
  rotate_left
  · (intro wS hSw; (try dsimp only at hSw); go_simp <;> with_reducible rfl)
  try simp only [Act.put, tkS]
  refine wpAnyH_done (by kernel_rfl) ?_ _
  clear x0_0 x0_1 x0_2 x0_3 x1_0 x1_1 y0_0 y0_1 y0_2 y0_3 y1_0 y1_1 RE1_1
  have x0_0 := cell_at (o := 0) hx.2.1 rfl
  have x0_1 := cell_at (o := 1) hx.2.1 rfl
  have x0_2 := cell_at (o := 2) hx.2.1 rfl
  have x0_3 := cell_at (o := 3) hx.2.1 rfl
  have x1_0 := cell_at (o := 0) hx.2.2.1 rfl
  have x1_1 := cell_at (o := 1) hx.2.2.1 rfl
  have y0_0 := cell_at (o := 0) hx.2.2.2.1 rfl
  have y0_1 := cell_at (o := 1) hx.2.2.2.1 rfl
  have y0_2 := cell_at (o := 2) hx.2.2.2.1 rfl
  have y0_3 := cell_at (o := 3) hx.2.2.2.1 rfl
  have y1_0 := cell_at (o := 0) hx.2.2.2.2.2.2.1 rfl
  have y1_1 := cell_at (o := 1) hx.2.2.2.2.2.2.1 rfl
  go_wp2_with fail
  have CE2 : Hid (∀ W, (Below w.heap.size w W ∧ W.heap[w.heap.size]? = some (.cells #[.string ⟨x0.nm.toArray⟩, .slice a0_1 x0.cols.length c0_1, .slice a0_2 x0.uq.length c0_2, .bool x0.rt] 25) ∧ W.heap[w.heap.size + 1]? = some (.cells #[.int .i64 x1.id, .slice a1_1 x1.cells.length c1_1] 28) ∧ W.heap[wx0.heap.size]? = some (.cells #[.string ⟨x0.nm.toArray⟩, .slice (some ⟨p0_1, 0, none⟩) x0.cols.length x0.cols.length, .slice (some ⟨p0_2, 0, none⟩) x0.uq.length x0.uq.length, .bool x0.rt] 39) ∧ Rd W (fun _ => True) (dColumnS x0.cols) (.slice (some ⟨p0_1, 0, none⟩) x0.cols.length x0.cols.length) ∧ Rd W (fun _ => True) (dIntS x0.uq) (.slice (some ⟨p0_2, 0, none⟩) x0.uq.length x0.uq.length) ∧ W.heap[wx1.heap.size]? = some (.cells #[.int .i64 x1.id, .slice (some ⟨p1_1, 0, none⟩) x1.cells.length x1.cells.length] 43) ∧ Rd W (fun _ => True) (dAtomSS x1.cells) (.slice (some ⟨p1_1, 0, none⟩) x1.cells.length x1.cells.length) ∧ Rd W (fun _ => True) (dCondS x2) (.slice (some ⟨p2_, 0, none⟩) x2.length x2.length)) → (True)) := fun W h => trivial
  refine (TO2.out _ (by first | exact XA.out _ hx | exact XA.out _ (XS2L.out _ _ hx (Below.refl _ _).drew))).mono ?_
  rintro e we2 ⟨s2_, rfl, ho, hB, _⟩
  have h2 : Below w.heap.size w we2 ∧ we2.heap[w.heap.size]? = some (.cells #[.string ⟨x0.nm.toArray⟩, .slice a0_1 x0.cols.length c0_1, .slice a0_2 x0.uq.length c0_2, .bool x0.rt] 25) ∧ we2.heap[w.heap.size + 1]? = some (.cells #[.int .i64 x1.id, .slice a1_1 x1.cells.length c1_1] 28) ∧ we2.heap[wx0.heap.size]? = some (.cells #[.string ⟨x0.nm.toArray⟩, .slice (some ⟨p0_1, 0, none⟩) x0.cols.length x0.cols.length, .slice (some ⟨p0_2, 0, none⟩) x0.uq.length x0.uq.length, .bool x0.rt] 39) ∧ Rd we2 (fun _ => True) (dColumnS x0.cols) (.slice (some ⟨p0_1, 0, none⟩) x0.cols.length x0.cols.length) ∧ Rd we2 (fun _ => True) (dIntS x0.uq) (.slice (some ⟨p0_2, 0, none⟩) x0.uq.length x0.uq.length) ∧ we2.heap[wx1.heap.size]? = some (.cells #[.int .i64 x1.id, .slice (some ⟨p1_1, 0, none⟩) x1.cells.length x1.cells.length] 43) ∧ Rd we2 (fun _ => True) (dAtomSS x1.cells) (.slice (some ⟨p1_1, 0, none⟩) x1.cells.length x1.cells.length) ∧ Rd we2 (fun _ => True) (dCondS x2) (.slice (some ⟨p2_, 0, none⟩) x2.length x2.length) := (by first | exact XS2L.out _ _ hx hB | exact XS2L.out _ _ (XS2L.out _ _ hx (Below.refl _ _).drew) hB)
  clear hx
  have hx := h2
  clear h2
  have RE2_ : Hid (Rd _ (fun _ => True) (dCondS x2) (.slice (some ⟨s2_, 0, none⟩) x2.length x2.length)) := ho.rd'.any
  clear hB ho
  go_wp2_with fail
  refine (EQ2.out _ _ _ _ _ (by first | exact hx.2.2.2.2.2.2.2.2 | exact Rd.later hx.2.2.2.2.2.2.2.2 (Below.refl _ _).drew) (by first | exact RE2_.out | exact Rd.later RE2_.out (Below.refl _ _).drew)).mono ?_
  rintro e wf2 ⟨rfl, hB⟩
  have h2 : Below w.heap.size w wf2 ∧ wf2.heap[w.heap.size]? = some (.cells #[.string ⟨x0.nm.toArray⟩, .slice a0_1 x0.cols.length c0_1, .slice a0_2 x0.uq.length c0_2, .bool x0.rt] 25) ∧ wf2.heap[w.heap.size + 1]? = some (.cells #[.int .i64 x1.id, .slice a1_1 x1.cells.length c1_1] 28) ∧ wf2.heap[wx0.heap.size]? = some (.cells #[.string ⟨x0.nm.toArray⟩, .slice (some ⟨p0_1, 0, none⟩) x0.cols.length x0.cols.length, .slice (some ⟨p0_2, 0, none⟩) x0.uq.length x0.uq.length, .bool x0.rt] 39) ∧ Rd wf2 (fun _ => True) (dColumnS x0.cols) (.slice (some ⟨p0_1, 0, none⟩) x0.cols.length x0.cols.length) ∧ Rd wf2 (fun _ => True) (dIntS x0.uq) (.slice (some ⟨p0_2, 0, none⟩) x0.uq.length x0.uq.length) ∧ wf2.heap[wx1.heap.size]? = some (.cells #[.int .i64 x1.id, .slice (some ⟨p1_1, 0, none⟩) x1.cells.length x1.cells.length] 43) ∧ Rd wf2 (fun _ => True) (dAtomSS x1.cells) (.slice (some ⟨p1_1, 0, none⟩) x1.cells.length x1.cells.length) ∧ Rd wf2 (fun _ => True) (dCondS x2) (.slice (some ⟨p2_, 0, none⟩) x2.length x2.length) := (by first | exact XS2L.out _ _ hx hB | exact XS2L.out _ _ (XS2L.out _ _ hx (Below.refl _ _).drew) hB)
  clear hx hB
  have hx := h2
  clear h2
  clear x0_0 x0_1 x0_2 x0_3 x1_0 x1_1 y0_0 y0_1 y0_2 y0_3 y1_0 y1_1 RE2_
  go_wp2_with fail
  go_ret
  exact ⟨rfl, by first | exact hx.1 | exact hx.1.drew⟩
end Go.Proofs.YtpjjpdbmooiplaaGreatDoor
