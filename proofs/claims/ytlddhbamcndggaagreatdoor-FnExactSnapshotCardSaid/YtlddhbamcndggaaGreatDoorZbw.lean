import Derived.Test.YtlddhbamcndggaaGreatDoorZbs
import Derived.Test.YtlddhbamcndggaaGreatDoorZbt
import Derived.Test.YtlddhbamcndggaaGreatDoorZbv
import Derived.Deep.RegionHeld3
import Derived.Deep.CutRange
import Derived.Test.YtlddhbamcndggaaGreatDoorZTk
namespace Go.Proofs.YtlddhbamcndggaaGreatDoor
open Go.RowKit
set_option linter.unusedSimpArgs false
set_option maxRecDepth 100000 in
set_option maxHeartbeats 12800000 in
theorem lawSnapshot (x0 : ScV) (x1 : StV) (x2 : MoV) (a0_0 : Option Addr) (c0_0 : Nat) (a1_0 : Option Addr) (c1_0 : Nat) (a2_2 : Option Addr) (c2_2 : Nat) (a2_7 : Option Addr) (c2_7 : Nat) (w : World) (l0_0 : (dTableS x0.tables).le maxLen) (l1_0 : (dRowSS x1.tables).le maxLen) (l2_2 : (dStringS x2.cs).le maxLen) (l2_7 : (dCondS x2.wh).le maxLen) (l1_1 : iOK x1.next) (l2_0 : x2.nm.length ≤ maxLen) (l2_1 : x2.tb.length ≤ maxLen) (r0_0 : Rd w (· < w.heap.size) (dTableS x0.tables) (.slice a0_0 x0.tables.length c0_0)) (r1_0 : Rd w (· < w.heap.size) (dRowSS x1.tables) (.slice a1_0 x1.tables.length c1_0)) (r2_2 : Rd w (· < w.heap.size) (dStringS x2.cs) (.slice a2_2 x2.cs.length c2_2)) (r2_7 : Rd w (· < w.heap.size) (dCondS x2.wh) (.slice a2_7 x2.wh.length c2_7)) (hTab : TabW w) (h0w : 0 < w.heap.size) :
  Calls Tryz.prog 3 #[.agg #[.slice a0_0 x0.tables.length c0_0], .agg #[.slice a1_0 x1.tables.length c1_0, .int .i64 x1.next], .agg #[.string ⟨x2.nm.toArray⟩, .string ⟨x2.tb.toArray⟩, .slice a2_2 x2.cs.length c2_2, .bool x2.ini, .bool x2.ins, .bool x2.del, .bool x2.mod, .slice a2_7 x2.wh.length c2_7]] w fun e w' => e = .returned (.bool true) ∧ Below w.heap.size w w' := by
 have HTW := Lib.hid (And.intro hTab h0w)
 clear hTab h0w
 have HL0_0 := Lib.hid l0_0
 have HO0 : Hid (∀ j, j < 1 → (dSchema x0 j).le maxLen) := fun j hj => by
  obtain rfl : j = 0 := by omega
  exact l0_0
 have RA0_0 : Hid (∀ W, Below w.heap.size w W → Rd W (· < w.heap.size) (dTableS x0.tables) (.slice a0_0 x0.tables.length c0_0)) := fun W h => Rd.same (fun b hb => h.block b hb) (fun _ h => h) _ _ r0_0
 have HL1_0 := Lib.hid l1_0
 have HO1 : Hid (∀ j, j < 2 → (dStore x1 j).le maxLen) := fun j hj => by
  rcases (by omega : j = 0 ∨ j = 1) with rfl | rfl
  ·
   exact l1_0
  ·
   exact l1_1
 have RA1_0 : Hid (∀ W, Below w.heap.size w W → Rd W (· < w.heap.size) (dRowSS x1.tables) (.slice a1_0 x1.tables.length c1_0)) := fun W h => Rd.same (fun b hb => h.block b hb) (fun _ h => h) _ _ r1_0
 have HL2_2 := Lib.hid l2_2
 have HL2_7 := Lib.hid l2_7
 have HO2 : Hid (∀ j, j < 8 → (dMonitor x2 j).le maxLen) := fun j hj => by
  rcases (by omega : j = 0 ∨ j = 1 ∨ j = 2 ∨ j = 3 ∨ j = 4 ∨ j = 5 ∨ j = 6 ∨ j = 7) with rfl | rfl | rfl | rfl | rfl | rfl | rfl | rfl
  ·
   exact l2_0
  ·
   exact l2_1
  ·
   exact l2_2
  ·
   exact trivial
  ·
   exact trivial
  ·
   exact trivial
  ·
   exact trivial
  ·
   exact l2_7
 have RA2_2 : Hid (∀ W, Below w.heap.size w W → Rd W (· < w.heap.size) (dStringS x2.cs) (.slice a2_2 x2.cs.length c2_2)) := fun W h => Rd.same (fun b hb => h.block b hb) (fun _ h => h) _ _ r2_2
 have RA2_7 : Hid (∀ W, Below w.heap.size w W → Rd W (· < w.heap.size) (dCondS x2.wh) (.slice a2_7 x2.wh.length c2_7)) := fun W h => Rd.same (fun b hb => h.block b hb) (fun _ h => h) _ _ r2_7
 have ALAT : Hid (∀ W W', (Below w.heap.size w W ∧ W.heap[w.heap.size]? = some (.cells #[.slice a0_0 x0.tables.length c0_0] 24) ∧ W.heap[w.heap.size + 1]? = some (.cells #[.slice a1_0 x1.tables.length c1_0, .int .i64 x1.next] 27) ∧ W.heap[w.heap.size + 1 + 1]? = some (.cells #[.string ⟨x2.nm.toArray⟩, .string ⟨x2.tb.toArray⟩, .slice a2_2 x2.cs.length c2_2, .bool x2.ini, .bool x2.ins, .bool x2.del, .bool x2.mod, .slice a2_7 x2.wh.length c2_7] 31)) → Below W.heap.size W W' → (Below w.heap.size w W' ∧ W'.heap[w.heap.size]? = some (.cells #[.slice a0_0 x0.tables.length c0_0] 24) ∧ W'.heap[w.heap.size + 1]? = some (.cells #[.slice a1_0 x1.tables.length c1_0, .int .i64 x1.next] 27) ∧ W'.heap[w.heap.size + 1 + 1]? = some (.cells #[.string ⟨x2.nm.toArray⟩, .string ⟨x2.tb.toArray⟩, .slice a2_2 x2.cs.length c2_2, .bool x2.ini, .bool x2.ins, .bool x2.del, .bool x2.mod, .slice a2_7 x2.wh.length c2_7] 31))) := fun W W' h hB => ⟨h.1.trans (hB.mono h.1.size), heap_keptD h.2.1 hB, heap_keptD h.2.2.1 hB, heap_keptD h.2.2.2 hB⟩
 have A0 : Hid (Below w.heap.size w (((w.alloc (.cells #[.slice a0_0 x0.tables.length c0_0] 24)).alloc (.cells #[.slice a1_0 x1.tables.length c1_0, .int .i64 x1.next] 27)).alloc (.cells #[.string ⟨x2.nm.toArray⟩, .string ⟨x2.tb.toArray⟩, .slice a2_2 x2.cs.length c2_2, .bool x2.ini, .bool x2.ins, .bool x2.del, .bool x2.mod, .slice a2_7 x2.wh.length c2_7] 31)) ∧ (((w.alloc (.cells #[.slice a0_0 x0.tables.length c0_0] 24)).alloc (.cells #[.slice a1_0 x1.tables.length c1_0, .int .i64 x1.next] 27)).alloc (.cells #[.string ⟨x2.nm.toArray⟩, .string ⟨x2.tb.toArray⟩, .slice a2_2 x2.cs.length c2_2, .bool x2.ini, .bool x2.ins, .bool x2.del, .bool x2.mod, .slice a2_7 x2.wh.length c2_7] 31)).heap[w.heap.size]? = some (.cells #[.slice a0_0 x0.tables.length c0_0] 24) ∧ (((w.alloc (.cells #[.slice a0_0 x0.tables.length c0_0] 24)).alloc (.cells #[.slice a1_0 x1.tables.length c1_0, .int .i64 x1.next] 27)).alloc (.cells #[.string ⟨x2.nm.toArray⟩, .string ⟨x2.tb.toArray⟩, .slice a2_2 x2.cs.length c2_2, .bool x2.ini, .bool x2.ins, .bool x2.del, .bool x2.mod, .slice a2_7 x2.wh.length c2_7] 31)).heap[w.heap.size + 1]? = some (.cells #[.slice a1_0 x1.tables.length c1_0, .int .i64 x1.next] 27) ∧ (((w.alloc (.cells #[.slice a0_0 x0.tables.length c0_0] 24)).alloc (.cells #[.slice a1_0 x1.tables.length c1_0, .int .i64 x1.next] 27)).alloc (.cells #[.string ⟨x2.nm.toArray⟩, .string ⟨x2.tb.toArray⟩, .slice a2_2 x2.cs.length c2_2, .bool x2.ini, .bool x2.ins, .bool x2.del, .bool x2.mod, .slice a2_7 x2.wh.length c2_7] 31)).heap[w.heap.size + 1 + 1]? = some (.cells #[.string ⟨x2.nm.toArray⟩, .string ⟨x2.tb.toArray⟩, .slice a2_2 x2.cs.length c2_2, .bool x2.ini, .bool x2.ins, .bool x2.del, .bool x2.mod, .slice a2_7 x2.wh.length c2_7] 31)) := by
  refine ⟨((below_allocD _ _).trans ((below_allocD _ _).mono (by simp))).trans ((below_allocD _ _).mono (by simp; omega)), heap_keptD (heap_keptD (heap_newD _ _) (below_allocD _ _)) (below_allocD _ _), ?_, ?_⟩
  ·
   have h := heap_keptD (heap_newD (w.alloc (.cells #[.slice a0_0 x0.tables.length c0_0] 24)) (.cells #[.slice a1_0 x1.tables.length c1_0, .int .i64 x1.next] 27)) (below_allocD _ (.cells #[.string ⟨x2.nm.toArray⟩, .string ⟨x2.tb.toArray⟩, .slice a2_2 x2.cs.length c2_2, .bool x2.ini, .bool x2.ins, .bool x2.del, .bool x2.mod, .slice a2_7 x2.wh.length c2_7] 31))
   rw [size_allocD] at h
   exact h
  ·
   have h := heap_newD ((w.alloc (.cells #[.slice a0_0 x0.tables.length c0_0] 24)).alloc (.cells #[.slice a1_0 x1.tables.length c1_0, .int .i64 x1.next] 27)) (.cells #[.string ⟨x2.nm.toArray⟩, .string ⟨x2.tb.toArray⟩, .slice a2_2 x2.cs.length c2_2, .bool x2.ini, .bool x2.ins, .bool x2.del, .bool x2.mod, .slice a2_7 x2.wh.length c2_7] 31)
   rw [size_allocD, size_allocD] at h
   exact h
 clear l0_0 r0_0 l1_0 r1_0 l2_2 r2_2 l2_7 r2_7 l1_1
 have x0_0 := cell_at (o := 0) A0.out.2.1 rfl
 have x1_0 := cell_at (o := 0) A0.out.2.2.1 rfl
 have x1_1 := cell_at (o := 1) A0.out.2.2.1 rfl
 have x2_0 := cell_at (o := 0) A0.out.2.2.2 rfl
 have x2_1 := cell_at (o := 1) A0.out.2.2.2 rfl
 have x2_2 := cell_at (o := 2) A0.out.2.2.2 rfl
 have x2_3 := cell_at (o := 3) A0.out.2.2.2 rfl
 have x2_4 := cell_at (o := 4) A0.out.2.2.2 rfl
 have x2_5 := cell_at (o := 5) A0.out.2.2.2 rfl
 have x2_6 := cell_at (o := 6) A0.out.2.2.2 rfl
 have x2_7 := cell_at (o := 7) A0.out.2.2.2 rfl
 go_enter Tryz.func3, Tryz.ntmps3
 go_wp2_with fail
 have bl : Hid ((0 : Int) ≤ 1048576 ∧ (1048576 : Int) ≤ 1048576) := by show _ ∧ _; omega
 refine (szDSchema x0 a0_0 c0_0 1048576 _ _ bl.out.1 bl.out.2 HO0.out (RA0_0.out _ A0.out.1)).mono ?_
 rintro e ws0 ⟨rfl, hB⟩
 have AS0 := Lib.hid (ALAT.out _ _ A0.out hB)
 clear hB A0 x0_0 x1_0 x1_1 x2_0 x2_1 x2_2 x2_3 x2_4 x2_5 x2_6 x2_7
 have x0_0 := cell_at (o := 0) AS0.out.2.1 rfl
 have x1_0 := cell_at (o := 0) AS0.out.2.2.1 rfl
 have x1_1 := cell_at (o := 1) AS0.out.2.2.1 rfl
 have x2_0 := cell_at (o := 0) AS0.out.2.2.2 rfl
 have x2_1 := cell_at (o := 1) AS0.out.2.2.2 rfl
 have x2_2 := cell_at (o := 2) AS0.out.2.2.2 rfl
 have x2_3 := cell_at (o := 3) AS0.out.2.2.2 rfl
 have x2_4 := cell_at (o := 4) AS0.out.2.2.2 rfl
 have x2_5 := cell_at (o := 5) AS0.out.2.2.2 rfl
 have x2_6 := cell_at (o := 6) AS0.out.2.2.2 rfl
 have x2_7 := cell_at (o := 7) AS0.out.2.2.2 rfl
 by_cases hz0 : (1048576 : Int) - (szT 1 (dSchema x0) : Int) < 0
 case pos =>
  rw [less_no hz0]
  go_wp2_with fail
  go_ret
  exact ⟨rfl, AS0.out.1⟩
 rw [less_yes (by omega)]
 obtain ⟨L0, hL0⟩ : ∃ L0 : Int, L0 = 1048576 - (szT 1 (dSchema x0) : Int) := ⟨_, rfl⟩
 rw [← hL0]
 have dL0 : decide (L0 < 0) = false := decide_eq_false (by omega)
 have HZ0 : Hid (szT 1 (dSchema x0) ≤ 1048576) := by have := bl.out; show _ ≤ _; omega
 have b2 : Hid (0 ≤ L0 ∧ L0 ≤ 1048576) := by have := bl.out; show _ ∧ _; omega
 clear hz0 hL0 bl
 have bl := b2
 clear b2
 go_wp2_with fail
 refine (szDStore x1 a1_0 c1_0 L0 _ _ bl.out.1 bl.out.2 HO1.out (RA1_0.out _ AS0.out.1)).mono ?_
 rintro e ws1 ⟨rfl, hB⟩
 have AS1 := Lib.hid (ALAT.out _ _ AS0.out hB)
 clear hB AS0 x0_0 x1_0 x1_1 x2_0 x2_1 x2_2 x2_3 x2_4 x2_5 x2_6 x2_7
 have x0_0 := cell_at (o := 0) AS1.out.2.1 rfl
 have x1_0 := cell_at (o := 0) AS1.out.2.2.1 rfl
 have x1_1 := cell_at (o := 1) AS1.out.2.2.1 rfl
 have x2_0 := cell_at (o := 0) AS1.out.2.2.2 rfl
 have x2_1 := cell_at (o := 1) AS1.out.2.2.2 rfl
 have x2_2 := cell_at (o := 2) AS1.out.2.2.2 rfl
 have x2_3 := cell_at (o := 3) AS1.out.2.2.2 rfl
 have x2_4 := cell_at (o := 4) AS1.out.2.2.2 rfl
 have x2_5 := cell_at (o := 5) AS1.out.2.2.2 rfl
 have x2_6 := cell_at (o := 6) AS1.out.2.2.2 rfl
 have x2_7 := cell_at (o := 7) AS1.out.2.2.2 rfl
 by_cases hz1 : L0 - (szT 2 (dStore x1) : Int) < 0
 case pos =>
  rw [less_no hz1]
  go_wp2_with fail
  go_ret
  exact ⟨rfl, AS1.out.1⟩
 rw [less_yes (by omega)]
 obtain ⟨L1, hL1⟩ : ∃ L1 : Int, L1 = L0 - (szT 2 (dStore x1) : Int) := ⟨_, rfl⟩
 rw [← hL1]
 have dL1 : decide (L1 < 0) = false := decide_eq_false (by omega)
 have HZ1 : Hid (szT 2 (dStore x1) ≤ 1048576) := by have := bl.out; show _ ≤ _; omega
 have b2 : Hid (0 ≤ L1 ∧ L1 ≤ 1048576) := by have := bl.out; show _ ∧ _; omega
 clear hz1 hL1 bl
 have bl := b2
 clear b2
 go_wp2_with fail
 refine (szDMonitor x2 a2_2 c2_2 a2_7 c2_7 L1 _ _ bl.out.1 bl.out.2 HO2.out (RA2_2.out _ AS1.out.1) (RA2_7.out _ AS1.out.1)).mono ?_
 rintro e ws2 ⟨rfl, hB⟩
 have AS2 := Lib.hid (ALAT.out _ _ AS1.out hB)
 clear hB AS1 x0_0 x1_0 x1_1 x2_0 x2_1 x2_2 x2_3 x2_4 x2_5 x2_6 x2_7
 have x0_0 := cell_at (o := 0) AS2.out.2.1 rfl
 have x1_0 := cell_at (o := 0) AS2.out.2.2.1 rfl
 have x1_1 := cell_at (o := 1) AS2.out.2.2.1 rfl
 have x2_0 := cell_at (o := 0) AS2.out.2.2.2 rfl
 have x2_1 := cell_at (o := 1) AS2.out.2.2.2 rfl
 have x2_2 := cell_at (o := 2) AS2.out.2.2.2 rfl
 have x2_3 := cell_at (o := 3) AS2.out.2.2.2 rfl
 have x2_4 := cell_at (o := 4) AS2.out.2.2.2 rfl
 have x2_5 := cell_at (o := 5) AS2.out.2.2.2 rfl
 have x2_6 := cell_at (o := 6) AS2.out.2.2.2 rfl
 have x2_7 := cell_at (o := 7) AS2.out.2.2.2 rfl
 by_cases hz2 : L1 - (szT 8 (dMonitor x2) : Int) < 0
 case pos =>
  rw [less_no hz2]
  go_wp2_with fail
  go_ret
  exact ⟨rfl, AS2.out.1⟩
 rw [less_yes (by omega)]
 obtain ⟨L2, hL2⟩ : ∃ L2 : Int, L2 = L1 - (szT 8 (dMonitor x2) : Int) := ⟨_, rfl⟩
 rw [← hL2]
 have dL2 : decide (L2 < 0) = false := decide_eq_false (by omega)
 have HZ2 : Hid (szT 8 (dMonitor x2) ≤ 1048576) := by have := bl.out; show _ ≤ _; omega
 have b2 : Hid (0 ≤ L2 ∧ L2 ≤ 1048576) := by have := bl.out; show _ ∧ _; omega
 clear hz2 hL2 bl
 have bl := b2
 clear b2
 go_upto_region 11 with fail
 have HK0 : Hid (∀ j, j < 1 → (dSchema x0 j).le 1048576) := fun j hj => D.le_of_sz _ (HO0.out j hj) (Nat.le_trans (sumN_le (g := fun j => (dSchema x0 j).sz) hj) HZ0.out)
 have HK1 : Hid (∀ j, j < 2 → (dStore x1 j).le 1048576) := fun j hj => D.le_of_sz _ (HO1.out j hj) (Nat.le_trans (sumN_le (g := fun j => (dStore x1 j).sz) hj) HZ1.out)
 have HK2 : Hid (∀ j, j < 8 → (dMonitor x2 j).le 1048576) := fun j hj => D.le_of_sz _ (HO2.out j hj) (Nat.le_trans (sumN_le (g := fun j => (dMonitor x2 j).sz) hj) HZ2.out)
 have TO0 : Hid (∀ W, (Below w.heap.size w W ∧ W.heap[w.heap.size]? = some (.cells #[.slice a0_0 x0.tables.length c0_0] 24) ∧ W.heap[w.heap.size + 1]? = some (.cells #[.slice a1_0 x1.tables.length c1_0, .int .i64 x1.next] 27) ∧ W.heap[w.heap.size + 1 + 1]? = some (.cells #[.string ⟨x2.nm.toArray⟩, .string ⟨x2.tb.toArray⟩, .slice a2_2 x2.cs.length c2_2, .bool x2.ini, .bool x2.ins, .bool x2.del, .bool x2.mod, .slice a2_7 x2.wh.length c2_7] 31)) → Calls Tryz.prog 8 #[.agg #[.slice a0_0 x0.tables.length c0_0]] W fun e w' => ∃ p0 : Nat, e = .returned (.agg #[.slice (some ⟨p0, 0, none⟩) x0.tables.length x0.tables.length]) ∧ Owns w' 1 (dSchema x0) (vat [.slice (some ⟨p0, 0, none⟩) x0.tables.length x0.tables.length]) (fun c => W.heap.size ≤ c ∧ c < w'.heap.size) ∧ Below W.heap.size W w' ∧ (Below w.heap.size w w' ∧ w'.heap[w.heap.size]? = some (.cells #[.slice a0_0 x0.tables.length c0_0] 24) ∧ w'.heap[w.heap.size + 1]? = some (.cells #[.slice a1_0 x1.tables.length c1_0, .int .i64 x1.next] 27) ∧ w'.heap[w.heap.size + 1 + 1]? = some (.cells #[.string ⟨x2.nm.toArray⟩, .string ⟨x2.tb.toArray⟩, .slice a2_2 x2.cs.length c2_2, .bool x2.ini, .bool x2.ins, .bool x2.del, .bool x2.mod, .slice a2_7 x2.wh.length c2_7] 31))) := fun W h => (toDSchema x0 a0_0 c0_0 _ W HK0.out (RA0_0.out W h.1)).mono (fun e w' ⟨p0, he, ho, hB⟩ => ⟨p0, he, ho, hB, ALAT.out _ _ h hB⟩)
 have TO1 : Hid (∀ W, (Below w.heap.size w W ∧ W.heap[w.heap.size]? = some (.cells #[.slice a0_0 x0.tables.length c0_0] 24) ∧ W.heap[w.heap.size + 1]? = some (.cells #[.slice a1_0 x1.tables.length c1_0, .int .i64 x1.next] 27) ∧ W.heap[w.heap.size + 1 + 1]? = some (.cells #[.string ⟨x2.nm.toArray⟩, .string ⟨x2.tb.toArray⟩, .slice a2_2 x2.cs.length c2_2, .bool x2.ini, .bool x2.ins, .bool x2.del, .bool x2.mod, .slice a2_7 x2.wh.length c2_7] 31)) → Calls Tryz.prog 9 #[.agg #[.slice a1_0 x1.tables.length c1_0, .int .i64 x1.next]] W fun e w' => ∃ p0 : Nat, e = .returned (.agg #[.slice (some ⟨p0, 0, none⟩) x1.tables.length x1.tables.length, .int .i64 x1.next]) ∧ Owns w' 2 (dStore x1) (vat [.slice (some ⟨p0, 0, none⟩) x1.tables.length x1.tables.length, .int .i64 x1.next]) (fun c => W.heap.size ≤ c ∧ c < w'.heap.size) ∧ Below W.heap.size W w' ∧ (Below w.heap.size w w' ∧ w'.heap[w.heap.size]? = some (.cells #[.slice a0_0 x0.tables.length c0_0] 24) ∧ w'.heap[w.heap.size + 1]? = some (.cells #[.slice a1_0 x1.tables.length c1_0, .int .i64 x1.next] 27) ∧ w'.heap[w.heap.size + 1 + 1]? = some (.cells #[.string ⟨x2.nm.toArray⟩, .string ⟨x2.tb.toArray⟩, .slice a2_2 x2.cs.length c2_2, .bool x2.ini, .bool x2.ins, .bool x2.del, .bool x2.mod, .slice a2_7 x2.wh.length c2_7] 31))) := fun W h => (toDStore x1 a1_0 c1_0 _ W HK1.out (RA1_0.out W h.1)).mono (fun e w' ⟨p0, he, ho, hB⟩ => ⟨p0, he, ho, hB, ALAT.out _ _ h hB⟩)
 have TO2 : Hid (∀ W, (Below w.heap.size w W ∧ W.heap[w.heap.size]? = some (.cells #[.slice a0_0 x0.tables.length c0_0] 24) ∧ W.heap[w.heap.size + 1]? = some (.cells #[.slice a1_0 x1.tables.length c1_0, .int .i64 x1.next] 27) ∧ W.heap[w.heap.size + 1 + 1]? = some (.cells #[.string ⟨x2.nm.toArray⟩, .string ⟨x2.tb.toArray⟩, .slice a2_2 x2.cs.length c2_2, .bool x2.ini, .bool x2.ins, .bool x2.del, .bool x2.mod, .slice a2_7 x2.wh.length c2_7] 31)) → Calls Tryz.prog 10 #[.agg #[.string ⟨x2.nm.toArray⟩, .string ⟨x2.tb.toArray⟩, .slice a2_2 x2.cs.length c2_2, .bool x2.ini, .bool x2.ins, .bool x2.del, .bool x2.mod, .slice a2_7 x2.wh.length c2_7]] W fun e w' => ∃ p2 : Nat, ∃ p7 : Nat, e = .returned (.agg #[.string ⟨x2.nm.toArray⟩, .string ⟨x2.tb.toArray⟩, .slice (some ⟨p2, 0, none⟩) x2.cs.length x2.cs.length, .bool x2.ini, .bool x2.ins, .bool x2.del, .bool x2.mod, .slice (some ⟨p7, 0, none⟩) x2.wh.length x2.wh.length]) ∧ Owns w' 8 (dMonitor x2) (vat [.string ⟨x2.nm.toArray⟩, .string ⟨x2.tb.toArray⟩, .slice (some ⟨p2, 0, none⟩) x2.cs.length x2.cs.length, .bool x2.ini, .bool x2.ins, .bool x2.del, .bool x2.mod, .slice (some ⟨p7, 0, none⟩) x2.wh.length x2.wh.length]) (fun c => W.heap.size ≤ c ∧ c < w'.heap.size) ∧ Below W.heap.size W w' ∧ (Below w.heap.size w w' ∧ w'.heap[w.heap.size]? = some (.cells #[.slice a0_0 x0.tables.length c0_0] 24) ∧ w'.heap[w.heap.size + 1]? = some (.cells #[.slice a1_0 x1.tables.length c1_0, .int .i64 x1.next] 27) ∧ w'.heap[w.heap.size + 1 + 1]? = some (.cells #[.string ⟨x2.nm.toArray⟩, .string ⟨x2.tb.toArray⟩, .slice a2_2 x2.cs.length c2_2, .bool x2.ini, .bool x2.ins, .bool x2.del, .bool x2.mod, .slice a2_7 x2.wh.length c2_7] 31))) := fun W h => (toDMonitor x2 a2_2 c2_2 a2_7 c2_7 _ W HK2.out (RA2_2.out W h.1) (RA2_7.out W h.1)).mono (fun e w' ⟨p2, p7, he, ho, hB⟩ => ⟨p2, p7, he, ho, hB, ALAT.out _ _ h hB⟩)
 obtain ⟨R0, hR0⟩ : ∃ r, r = (snR x0.tables x1 x2).1 := ⟨_, rfl⟩
 obtain ⟨R1, hR1⟩ : ∃ r, r = (snR x0.tables x1 x2).2 := ⟨_, rfl⟩
 have CS : Hid (∀ (W : World) (b0_0 : Option Addr) (e0_0 : Nat) (b1_0 : Option Addr) (e1_0 : Nat) (b2_2 : Option Addr) (e2_2 : Nat) (b2_7 : Option Addr) (e2_7 : Nat), Rd W (fun _ => True) (dTableS x0.tables) (.slice b0_0 x0.tables.length e0_0) → Rd W (fun _ => True) (dRowSS x1.tables) (.slice b1_0 x1.tables.length e1_0) → Rd W (fun _ => True) (dStringS x2.cs) (.slice b2_2 x2.cs.length e2_2) → Rd W (fun _ => True) (dCondS x2.wh) (.slice b2_7 x2.wh.length e2_7) → Calls Tryz.prog 7 #[.agg #[.slice b0_0 x0.tables.length e0_0], .agg #[.slice b1_0 x1.tables.length e1_0, .int .i64 x1.next], .agg #[.string ⟨x2.nm.toArray⟩, .string ⟨x2.tb.toArray⟩, .slice b2_2 x2.cs.length e2_2, .bool x2.ini, .bool x2.ins, .bool x2.del, .bool x2.mod, .slice b2_7 x2.wh.length e2_7]] W fun e w' => ∃ (ra : Option Addr) (rc : Nat), e = .returned (.tuple #[.slice ra R0.length rc, .int .i64 R1]) ∧ Rd w' (fun c => W.heap.size ≤ c ∧ c < w'.heap.size) (dRowS R0) (.slice ra R0.length rc) ∧ Below W.heap.size W w') := fun W b0_0 e0_0 b1_0 e1_0 b2_2 e2_2 b2_7 e2_7 h0_0 h1_0 h2_2 h2_7 => by rw [hR0, hR1]; exact snapshotS x0.tables b0_0 e0_0 _ x1 b1_0 e1_0 _ x2 b2_2 e2_2 b2_7 e2_7 _ W HL0_0.out (HK1.out 0 (by omega)) (HO2.out 0 (by omega)) (HO2.out 1 (by omega)) HL2_2.out (HK2.out 7 (by omega)) h0_0 h1_0 h2_2 h2_7
 have CI : Hid (∀ (W : World) (b0_0 : Option Addr) (e0_0 : Nat) (b1_0 : Option Addr) (e1_0 : Nat) (b2_2 : Option Addr) (e2_2 : Nat) (b2_7 : Option Addr) (e2_7 : Nat), Rd W (fun _ => True) (dTableS x0.tables) (.slice b0_0 x0.tables.length e0_0) → Rd W (fun _ => True) (dRowSS x1.tables) (.slice b1_0 x1.tables.length e1_0) → Rd W (fun _ => True) (dStringS x2.cs) (.slice b2_2 x2.cs.length e2_2) → Rd W (fun _ => True) (dCondS x2.wh) (.slice b2_7 x2.wh.length e2_7) → Below w.heap.size w W → Calls Tryz.prog 11 #[.agg #[.slice b0_0 x0.tables.length e0_0], .agg #[.slice b1_0 x1.tables.length e1_0, .int .i64 x1.next], .agg #[.string ⟨x2.nm.toArray⟩, .string ⟨x2.tb.toArray⟩, .slice b2_2 x2.cs.length e2_2, .bool x2.ini, .bool x2.ins, .bool x2.del, .bool x2.mod, .slice b2_7 x2.wh.length e2_7]] W fun e w' => ∃ (ra : Option Addr) (rc : Nat), e = .returned (.tuple #[.slice ra R0.length rc, .int .i64 R1]) ∧ Own w' (dRowS R0) (fun c => W.heap.size ≤ c ∧ c < w'.heap.size) (.slice ra R0.length rc) ∧ Below W.heap.size W w') := fun W b0_0 e0_0 b1_0 e1_0 b2_2 e2_2 b2_7 e2_7 h0_0 h1_0 h2_2 h2_7 hbel => by rw [hR0, hR1]; exact snapshotI x0.tables b0_0 e0_0 _ x1 b1_0 e1_0 _ x2 b2_2 e2_2 b2_7 e2_7 _ W HL0_0.out (HK1.out 0 (by omega)) (HO2.out 0 (by omega)) (HO2.out 1 (by omega)) (HK2.out 2 (by omega)) (HK2.out 7 (by omega)) (HTW.out.1.later HTW.out.2 hbel) (Nat.lt_of_lt_of_le HTW.out.2 hbel.size) h0_0 h1_0 h2_2 h2_7
 have HRB : Hid ((dRowS R0).le maxLen ∧ (dRowS R0).sz ≤ 100000000) := by rw [hR0]; exact sn_le (HK1.out 0 (by omega)) (Nat.le_trans (sumN_le (g := fun j => (dStore x1 j).sz) (show 0 < 2 by omega)) HZ1.out)
 have HRW : Hid (1 + (dRowS R0).wd < 100000000000) := by have h1 := D.wd_le (dRowS R0) (HRB.out.1); have h2 := HRB.out.2; show _ < _; omega
 have nq1 : (R1 != R1) = false := by simp
 clear hR0 hR1
 have EQ0 : Hid (∀ (W : World) (b0 : Option Addr) (e0 : Nat) (f0 : Option Addr) (g0 : Nat), Rd W (fun _ => True) (dTableS x0.tables) (.slice b0 x0.tables.length e0) → Rd W (fun _ => True) (dTableS x0.tables) (.slice f0 x0.tables.length g0) → Calls Tryz.prog 13 #[.agg #[.slice b0 x0.tables.length e0], .agg #[.slice f0 x0.tables.length g0]] W fun e w' => e = .returned (.bool true) ∧ Below W.heap.size W w') := fun W b0 e0 f0 g0 h0 i0 => eqDSchema x0 b0 e0 f0 g0 _ _ W HO0.out h0 i0
 have EQ1 : Hid (∀ (W : World) (b0 : Option Addr) (e0 : Nat) (f0 : Option Addr) (g0 : Nat), Rd W (fun _ => True) (dRowSS x1.tables) (.slice b0 x1.tables.length e0) → Rd W (fun _ => True) (dRowSS x1.tables) (.slice f0 x1.tables.length g0) → Calls Tryz.prog 14 #[.agg #[.slice b0 x1.tables.length e0, .int .i64 x1.next], .agg #[.slice f0 x1.tables.length g0, .int .i64 x1.next]] W fun e w' => e = .returned (.bool true) ∧ Below W.heap.size W w') := fun W b0 e0 f0 g0 h0 i0 => eqDStore x1 b0 e0 f0 g0 _ _ W HO1.out h0 i0
 have EQ2 : Hid (∀ (W : World) (b2 : Option Addr) (e2 : Nat) (f2 : Option Addr) (g2 : Nat) (b7 : Option Addr) (e7 : Nat) (f7 : Option Addr) (g7 : Nat), Rd W (fun _ => True) (dStringS x2.cs) (.slice b2 x2.cs.length e2) → Rd W (fun _ => True) (dCondS x2.wh) (.slice b7 x2.wh.length e7) → Rd W (fun _ => True) (dStringS x2.cs) (.slice f2 x2.cs.length g2) → Rd W (fun _ => True) (dCondS x2.wh) (.slice f7 x2.wh.length g7) → Calls Tryz.prog 15 #[.agg #[.string ⟨x2.nm.toArray⟩, .string ⟨x2.tb.toArray⟩, .slice b2 x2.cs.length e2, .bool x2.ini, .bool x2.ins, .bool x2.del, .bool x2.mod, .slice b7 x2.wh.length e7], .agg #[.string ⟨x2.nm.toArray⟩, .string ⟨x2.tb.toArray⟩, .slice f2 x2.cs.length g2, .bool x2.ini, .bool x2.ins, .bool x2.del, .bool x2.mod, .slice f7 x2.wh.length g7]] W fun e w' => e = .returned (.bool true) ∧ Below W.heap.size W w') := fun W b2 e2 f2 g2 b7 e7 f7 g7 h2 h7 i2 i7 => eqDMonitor x2 b2 e2 b7 e7 f2 g2 f7 g7 _ _ W HO2.out h2 h7 i2 i7
 have EQR : Hid (∀ (W : World) (b : Option Addr) (e : Nat) (f : Option Addr) (g : Nat), Rd W (fun _ => True) (dRowS R0) (.slice b R0.length e) → Rd W (fun _ => True) (dRowS R0) (.slice f R0.length g) → Calls Tryz.prog 12 #[.slice b R0.length e, .slice f R0.length g] W fun e w' => e = .returned (.bool true) ∧ Below W.heap.size W w') := fun W b e f g h i => eqDRowS R0 b e f g _ _ W HRB.out.1 h i
 have HST : Hid (∀ W, Below ws2.heap.size ws2 W → (Below w.heap.size w W ∧ W.heap[w.heap.size]? = some (.cells #[.slice a0_0 x0.tables.length c0_0] 24) ∧ W.heap[w.heap.size + 1]? = some (.cells #[.slice a1_0 x1.tables.length c1_0, .int .i64 x1.next] 27) ∧ W.heap[w.heap.size + 1 + 1]? = some (.cells #[.string ⟨x2.nm.toArray⟩, .string ⟨x2.tb.toArray⟩, .slice a2_2 x2.cs.length c2_2, .bool x2.ini, .bool x2.ins, .bool x2.del, .bool x2.mod, .slice a2_7 x2.wh.length c2_7] 31))) := fun W h => ALAT.out _ _ AS2.out h
 have CE : Hid (∀ W, (Below w.heap.size w W ∧ W.heap[w.heap.size]? = some (.cells #[.slice a0_0 x0.tables.length c0_0] 24) ∧ W.heap[w.heap.size + 1]? = some (.cells #[.slice a1_0 x1.tables.length c1_0, .int .i64 x1.next] 27) ∧ W.heap[w.heap.size + 1 + 1]? = some (.cells #[.string ⟨x2.nm.toArray⟩, .string ⟨x2.tb.toArray⟩, .slice a2_2 x2.cs.length c2_2, .bool x2.ini, .bool x2.ins, .bool x2.del, .bool x2.mod, .slice a2_7 x2.wh.length c2_7] 31)) → (W.cell? ⟨w.heap.size, 0, none⟩ = some (.slice a0_0 x0.tables.length c0_0) ∧ W.cell? ⟨w.heap.size + 1, 0, none⟩ = some (.slice a1_0 x1.tables.length c1_0) ∧ W.cell? ⟨w.heap.size + 1, 1, none⟩ = some (.int .i64 x1.next) ∧ W.cell? ⟨w.heap.size + 1 + 1, 0, none⟩ = some (.string ⟨x2.nm.toArray⟩) ∧ W.cell? ⟨w.heap.size + 1 + 1, 1, none⟩ = some (.string ⟨x2.tb.toArray⟩) ∧ W.cell? ⟨w.heap.size + 1 + 1, 2, none⟩ = some (.slice a2_2 x2.cs.length c2_2) ∧ W.cell? ⟨w.heap.size + 1 + 1, 3, none⟩ = some (.bool x2.ini) ∧ W.cell? ⟨w.heap.size + 1 + 1, 4, none⟩ = some (.bool x2.ins) ∧ W.cell? ⟨w.heap.size + 1 + 1, 5, none⟩ = some (.bool x2.del) ∧ W.cell? ⟨w.heap.size + 1 + 1, 6, none⟩ = some (.bool x2.mod) ∧ W.cell? ⟨w.heap.size + 1 + 1, 7, none⟩ = some (.slice a2_7 x2.wh.length c2_7))) := fun W h => ⟨cell_at (o := 0) h.2.1 rfl, cell_at (o := 0) h.2.2.1 rfl, cell_at (o := 1) h.2.2.1 rfl, cell_at (o := 0) h.2.2.2 rfl, cell_at (o := 1) h.2.2.2 rfl, cell_at (o := 2) h.2.2.2 rfl, cell_at (o := 3) h.2.2.2 rfl, cell_at (o := 4) h.2.2.2 rfl, cell_at (o := 5) h.2.2.2 rfl, cell_at (o := 6) h.2.2.2 rfl, cell_at (o := 7) h.2.2.2 rfl⟩
 have HSX : Hid (∀ W, (Below w.heap.size w W ∧ W.heap[w.heap.size]? = some (.cells #[.slice a0_0 x0.tables.length c0_0] 24) ∧ W.heap[w.heap.size + 1]? = some (.cells #[.slice a1_0 x1.tables.length c1_0, .int .i64 x1.next] 27) ∧ W.heap[w.heap.size + 1 + 1]? = some (.cells #[.string ⟨x2.nm.toArray⟩, .string ⟨x2.tb.toArray⟩, .slice a2_2 x2.cs.length c2_2, .bool x2.ini, .bool x2.ins, .bool x2.del, .bool x2.mod, .slice a2_7 x2.wh.length c2_7] 31)) → (Below w.heap.size w W ∧ W.heap[w.heap.size]? = some (.cells #[.slice a0_0 x0.tables.length c0_0] 24) ∧ W.heap[w.heap.size + 1]? = some (.cells #[.slice a1_0 x1.tables.length c1_0, .int .i64 x1.next] 27) ∧ W.heap[w.heap.size + 1 + 1]? = some (.cells #[.string ⟨x2.nm.toArray⟩, .string ⟨x2.tb.toArray⟩, .slice a2_2 x2.cs.length c2_2, .bool x2.ini, .bool x2.ins, .bool x2.del, .bool x2.mod, .slice a2_7 x2.wh.length c2_7] 31))) := fun W h => ⟨h.1, h.2.1, h.2.2.1, h.2.2.2⟩
 clear AS2 x0_0 x1_0 x1_1 x2_0 x2_1 x2_2 x2_3 x2_4 x2_5 x2_6 x2_7
 go_cut [8, 9] from 35 to 44 (fun s0 s1 wx => ∃ (ra : Option Addr) (rc : Nat), s0 = .slice ra R0.length rc ∧ s1 = .int .i64 R1 ∧ Hid ((Below w.heap.size w wx ∧ wx.heap[w.heap.size]? = some (.cells #[.slice a0_0 x0.tables.length c0_0] 24) ∧ wx.heap[w.heap.size + 1]? = some (.cells #[.slice a1_0 x1.tables.length c1_0, .int .i64 x1.next] 27) ∧ wx.heap[w.heap.size + 1 + 1]? = some (.cells #[.string ⟨x2.nm.toArray⟩, .string ⟨x2.tb.toArray⟩, .slice a2_2 x2.cs.length c2_2, .bool x2.ini, .bool x2.ins, .bool x2.del, .bool x2.mod, .slice a2_7 x2.wh.length c2_7] 31) ∧ Rd wx (· < wx.heap.size) (dRowS R0) (.slice ra R0.length rc)) ∧ w.heap.size + 3 ≤ wx.heap.size))
 case first =>
  have BS : Hid (Below ws2.heap.size ws2 ws2) := Below.refl _ _
  refine wp_region_held_drew (S := (fun W => W.cell? ⟨w.heap.size, 0, none⟩ = some (.slice a0_0 x0.tables.length c0_0) ∧ W.cell? ⟨w.heap.size + 1, 0, none⟩ = some (.slice a1_0 x1.tables.length c1_0) ∧ W.cell? ⟨w.heap.size + 1, 1, none⟩ = some (.int .i64 x1.next) ∧ W.cell? ⟨w.heap.size + 1 + 1, 0, none⟩ = some (.string ⟨x2.nm.toArray⟩) ∧ W.cell? ⟨w.heap.size + 1 + 1, 1, none⟩ = some (.string ⟨x2.tb.toArray⟩) ∧ W.cell? ⟨w.heap.size + 1 + 1, 2, none⟩ = some (.slice a2_2 x2.cs.length c2_2) ∧ W.cell? ⟨w.heap.size + 1 + 1, 3, none⟩ = some (.bool x2.ini) ∧ W.cell? ⟨w.heap.size + 1 + 1, 4, none⟩ = some (.bool x2.ins) ∧ W.cell? ⟨w.heap.size + 1 + 1, 5, none⟩ = some (.bool x2.del) ∧ W.cell? ⟨w.heap.size + 1 + 1, 6, none⟩ = some (.bool x2.mod) ∧ W.cell? ⟨w.heap.size + 1 + 1, 7, none⟩ = some (.slice a2_7 x2.wh.length c2_7))) (by kernel_rfl) ?_ (fun hHeld => ?_)
  ·
   (first | exact CE.out _ (HST.out _ BS.out) | exact CE.out _ (HST.out _ BS.out.drew))
  refine tkB (i := 0) ?_
  refine tkB (i := 2) ?_
  refine tkB (i := 4) ?_
  refine tkR (i := 1) (fun K hK => ?_)
  go_simp
  go_at_call 8
  refine (TO0.out _ (by first | exact HSX.out _ (HST.out _ BS.out) | exact HSX.out _ (HST.out _ BS.out.drew))).mono ?_
  rintro e wt0 ⟨p0_0, rfl, ho, hB, -⟩
  have hb : Below ws2.heap.size ws2 wt0 := by first | exact hB | exact (Below.refl _ _).drew.trans hB
  have BS' : Hid (Below ws2.heap.size ws2 wt0) := BS.out.trans (hb.mono BS.out.size)
  clear BS
  have BS := BS'
  clear BS'
  have RC0_0 : Hid (∀ W, Below wt0.heap.size wt0 W → Rd W (fun _ => True) (dTableS x0.tables) (.slice (some ⟨p0_0, 0, none⟩) x0.tables.length x0.tables.length)) := fun W h => Rd.later ((Owns.one ho (j := 0) (by omega)).rd'.any) h
  have BC0 : Hid (Below wt0.heap.size wt0 wt0) := Below.refl _ _
  clear hb hB ho
  refine hK.out _ _ ?_ (fun hHeld => ?_)
  ·
   (first | exact CE.out _ (HST.out _ BS.out) | exact CE.out _ (HST.out _ BS.out.drew))
  clear hK K
  try simp only [Act.put, tkS]
  refine tkR (i := 3) (fun K hK => ?_)
  go_simp
  go_at_call 9
  refine (TO1.out _ (by first | exact HSX.out _ (HST.out _ BS.out) | exact HSX.out _ (HST.out _ BS.out.drew))).mono ?_
  rintro e wt1 ⟨p1_0, rfl, ho, hB, -⟩
  have hb : Below wt0.heap.size wt0 wt1 := by first | exact hB | exact (Below.refl _ _).drew.trans hB
  have BS' : Hid (Below ws2.heap.size ws2 wt1) := BS.out.trans (hb.mono BS.out.size)
  clear BS
  have BS := BS'
  clear BS'
  have BC0' : Hid (Below wt0.heap.size wt0 wt1) := BC0.out.trans (hb.mono BC0.out.size)
  clear BC0
  have BC0 := BC0'
  clear BC0'
  have RC1_0 : Hid (∀ W, Below wt1.heap.size wt1 W → Rd W (fun _ => True) (dRowSS x1.tables) (.slice (some ⟨p1_0, 0, none⟩) x1.tables.length x1.tables.length)) := fun W h => Rd.later ((Owns.one ho (j := 0) (by omega)).rd'.any) h
  have BC1 : Hid (Below wt1.heap.size wt1 wt1) := Below.refl _ _
  clear hb hB ho
  refine hK.out _ _ ?_ (fun hHeld => ?_)
  ·
   (first | exact CE.out _ (HST.out _ BS.out) | exact CE.out _ (HST.out _ BS.out.drew))
  clear hK K
  try simp only [Act.put, tkS]
  refine tkR (i := 5) (fun K hK => ?_)
  go_simp
  go_at_call 10
  refine (TO2.out _ (by first | exact HSX.out _ (HST.out _ BS.out) | exact HSX.out _ (HST.out _ BS.out.drew))).mono ?_
  rintro e wt2 ⟨p2_2, p2_7, rfl, ho, hB, -⟩
  have hb : Below wt1.heap.size wt1 wt2 := by first | exact hB | exact (Below.refl _ _).drew.trans hB
  have BS' : Hid (Below ws2.heap.size ws2 wt2) := BS.out.trans (hb.mono BS.out.size)
  clear BS
  have BS := BS'
  clear BS'
  have BC0' : Hid (Below wt0.heap.size wt0 wt2) := BC0.out.trans (hb.mono BC0.out.size)
  clear BC0
  have BC0 := BC0'
  clear BC0'
  have BC1' : Hid (Below wt1.heap.size wt1 wt2) := BC1.out.trans (hb.mono BC1.out.size)
  clear BC1
  have BC1 := BC1'
  clear BC1'
  have RC2_2 : Hid (∀ W, Below wt2.heap.size wt2 W → Rd W (fun _ => True) (dStringS x2.cs) (.slice (some ⟨p2_2, 0, none⟩) x2.cs.length x2.cs.length)) := fun W h => Rd.later ((Owns.one ho (j := 2) (by omega)).rd'.any) h
  have RC2_7 : Hid (∀ W, Below wt2.heap.size wt2 W → Rd W (fun _ => True) (dCondS x2.wh) (.slice (some ⟨p2_7, 0, none⟩) x2.wh.length x2.wh.length)) := fun W h => Rd.later ((Owns.one ho (j := 7) (by omega)).rd'.any) h
  have BC2 : Hid (Below wt2.heap.size wt2 wt2) := Below.refl _ _
  clear hb hB ho
  refine hK.out _ _ ?_ (fun hHeld => ?_)
  ·
   (first | exact CE.out _ (HST.out _ BS.out) | exact CE.out _ (HST.out _ BS.out.drew))
  clear hK K
  try simp only [Act.put, tkS]
  refine tkR (i := 6) (fun K hK => ?_)
  go_simp
  go_at_call 7
  refine (CS.out _ _ _ _ _ _ _ _ _ (by first | exact RC0_0.out _ BC0.out | exact RC0_0.out _ BC0.out.drew) (by first | exact RC1_0.out _ BC1.out | exact RC1_0.out _ BC1.out.drew) (by first | exact RC2_2.out _ BC2.out | exact RC2_2.out _ BC2.out.drew) (by first | exact RC2_7.out _ BC2.out | exact RC2_7.out _ BC2.out.drew)).mono ?_
  rintro e w2 ⟨ra, rc, rfl, hr2, hB⟩
  have hb : Below wt2.heap.size wt2 w2 := by first | exact hB | exact (Below.refl _ _).drew.trans hB
  have BS' : Hid (Below ws2.heap.size ws2 w2) := BS.out.trans (hb.mono BS.out.size)
  clear BS
  have BS := BS'
  clear BS'
  have BC0' : Hid (Below wt0.heap.size wt0 w2) := BC0.out.trans (hb.mono BC0.out.size)
  clear BC0
  have BC0 := BC0'
  clear BC0'
  have BC1' : Hid (Below wt1.heap.size wt1 w2) := BC1.out.trans (hb.mono BC1.out.size)
  clear BC1
  have BC1 := BC1'
  clear BC1'
  have BC2' : Hid (Below wt2.heap.size wt2 w2) := BC2.out.trans (hb.mono BC2.out.size)
  clear BC2
  have BC2 := BC2'
  clear BC2'
  have HR2 : Hid (Rd w2 (fun b => wt2.heap.size ≤ b ∧ b < w2.heap.size) (dRowS R0) (.slice ra R0.length rc)) := by first | exact hr2 | (simpa using hr2)
  clear hb hB hr2
  refine hK.out _ _ ?_ (fun hHeld => ?_)
  ·
   (first | exact CE.out _ (HST.out _ BS.out) | exact CE.out _ (HST.out _ BS.out.drew))
  clear hK K
  try simp only [Act.put, tkS]
  refine tkB (i := 7) ?_
  refine tkB (i := 8) ?_
  refine tkB (i := 9) ?_
  refine tkB (i := 10) ?_
  refine tkB (i := 11) ?_
  refine wpAnyH_done (by kernel_rfl) ?_ _
  have HF := Lib.hid (HST.out _ BS.out)
  go_wp2_with fail
  go_meet
  refine ⟨ra, rc, rfl, rfl, ⟨HF.out.1, HF.out.2.1, HF.out.2.2.1, HF.out.2.2.2, HR2.out.mono (fun b hb => hb.2)⟩, by have h := (Array.getElem?_eq_some_iff.1 HF.out.2.2.2).1; omega⟩
 clear HST CE HSX
 obtain ⟨ra, rc, rfl, rfl, HCUT⟩ := hcut
 have M0 : Hid (Below w.heap.size w wc ∧ wc.heap[w.heap.size]? = some (.cells #[.slice a0_0 x0.tables.length c0_0] 24) ∧ wc.heap[w.heap.size + 1]? = some (.cells #[.slice a1_0 x1.tables.length c1_0, .int .i64 x1.next] 27) ∧ wc.heap[w.heap.size + 1 + 1]? = some (.cells #[.string ⟨x2.nm.toArray⟩, .string ⟨x2.tb.toArray⟩, .slice a2_2 x2.cs.length c2_2, .bool x2.ini, .bool x2.ins, .bool x2.del, .bool x2.mod, .slice a2_7 x2.wh.length c2_7] 31) ∧ Rd wc (· < wc.heap.size) (dRowS R0) (.slice ra R0.length rc)) := HCUT.out.1
 have O0 : Hid (w.heap.size + 3 ≤ wc.heap.size) := HCUT.out.2
 clear HCUT
 have S0L : Hid (∀ W W', (Below w.heap.size w W ∧ W.heap[w.heap.size]? = some (.cells #[.slice a0_0 x0.tables.length c0_0] 24) ∧ W.heap[w.heap.size + 1]? = some (.cells #[.slice a1_0 x1.tables.length c1_0, .int .i64 x1.next] 27) ∧ W.heap[w.heap.size + 1 + 1]? = some (.cells #[.string ⟨x2.nm.toArray⟩, .string ⟨x2.tb.toArray⟩, .slice a2_2 x2.cs.length c2_2, .bool x2.ini, .bool x2.ins, .bool x2.del, .bool x2.mod, .slice a2_7 x2.wh.length c2_7] 31) ∧ Rd W (· < wc.heap.size) (dRowS R0) (.slice ra R0.length rc)) → Below W.heap.size W W' → (Below w.heap.size w W' ∧ W'.heap[w.heap.size]? = some (.cells #[.slice a0_0 x0.tables.length c0_0] 24) ∧ W'.heap[w.heap.size + 1]? = some (.cells #[.slice a1_0 x1.tables.length c1_0, .int .i64 x1.next] 27) ∧ W'.heap[w.heap.size + 1 + 1]? = some (.cells #[.string ⟨x2.nm.toArray⟩, .string ⟨x2.tb.toArray⟩, .slice a2_2 x2.cs.length c2_2, .bool x2.ini, .bool x2.ins, .bool x2.del, .bool x2.mod, .slice a2_7 x2.wh.length c2_7] 31) ∧ Rd W' (· < wc.heap.size) (dRowS R0) (.slice ra R0.length rc))) := fun W W' h hB => ⟨h.1.trans (hB.mono h.1.size), heap_keptD h.2.1 hB, heap_keptD h.2.2.1 hB, heap_keptD h.2.2.2.1 hB, h.2.2.2.2.later hB⟩
 have f_arg0_0 := cell_at (o := 0) M0.out.2.1 rfl
 have f_arg1_0 := cell_at (o := 0) M0.out.2.2.1 rfl
 have f_arg1_1 := cell_at (o := 1) M0.out.2.2.1 rfl
 have f_arg2_0 := cell_at (o := 0) M0.out.2.2.2.1 rfl
 have f_arg2_1 := cell_at (o := 1) M0.out.2.2.2.1 rfl
 have f_arg2_2 := cell_at (o := 2) M0.out.2.2.2.1 rfl
 have f_arg2_3 := cell_at (o := 3) M0.out.2.2.2.1 rfl
 have f_arg2_4 := cell_at (o := 4) M0.out.2.2.2.1 rfl
 have f_arg2_5 := cell_at (o := 5) M0.out.2.2.2.1 rfl
 have f_arg2_6 := cell_at (o := 6) M0.out.2.2.2.1 rfl
 have f_arg2_7 := cell_at (o := 7) M0.out.2.2.2.1 rfl
 go_wp2_with fail
 refine (TO0.out _ ⟨M0.out.1, M0.out.2.1, M0.out.2.2.1, M0.out.2.2.2.1⟩).mono ?_
 rintro e wx0 ⟨p0_0, rfl, ho, hB, -⟩
 have hm := S0L.out _ _ M0.out hB
 obtain ⟨u0, hu0⟩ : ∃ u, u = wc.heap.size := ⟨_, rfl⟩
 have U0 : Hid (wc.heap.size ≤ u0 ∧ u0 ≤ wx0.heap.size) := by refine ⟨by first | omega | (rw [hu0]), by rw [hu0]; exact hB.size⟩
 rw [← hu0] at ho
 have S1L : Hid (∀ W W', (Below w.heap.size w W ∧ W.heap[w.heap.size]? = some (.cells #[.slice a0_0 x0.tables.length c0_0] 24) ∧ W.heap[w.heap.size + 1]? = some (.cells #[.slice a1_0 x1.tables.length c1_0, .int .i64 x1.next] 27) ∧ W.heap[w.heap.size + 1 + 1]? = some (.cells #[.string ⟨x2.nm.toArray⟩, .string ⟨x2.tb.toArray⟩, .slice a2_2 x2.cs.length c2_2, .bool x2.ini, .bool x2.ins, .bool x2.del, .bool x2.mod, .slice a2_7 x2.wh.length c2_7] 31) ∧ Rd W (· < wc.heap.size) (dRowS R0) (.slice ra R0.length rc) ∧ W.heap[wx0.heap.size]? = some (.cells #[.slice (some ⟨p0_0, 0, none⟩) x0.tables.length x0.tables.length] 40) ∧ Own W (dTableS x0.tables) (fun c => u0 ≤ c ∧ c < wx0.heap.size) (.slice (some ⟨p0_0, 0, none⟩) x0.tables.length x0.tables.length)) → Below W.heap.size W W' → (Below w.heap.size w W' ∧ W'.heap[w.heap.size]? = some (.cells #[.slice a0_0 x0.tables.length c0_0] 24) ∧ W'.heap[w.heap.size + 1]? = some (.cells #[.slice a1_0 x1.tables.length c1_0, .int .i64 x1.next] 27) ∧ W'.heap[w.heap.size + 1 + 1]? = some (.cells #[.string ⟨x2.nm.toArray⟩, .string ⟨x2.tb.toArray⟩, .slice a2_2 x2.cs.length c2_2, .bool x2.ini, .bool x2.ins, .bool x2.del, .bool x2.mod, .slice a2_7 x2.wh.length c2_7] 31) ∧ Rd W' (· < wc.heap.size) (dRowS R0) (.slice ra R0.length rc) ∧ W'.heap[wx0.heap.size]? = some (.cells #[.slice (some ⟨p0_0, 0, none⟩) x0.tables.length x0.tables.length] 40) ∧ Own W' (dTableS x0.tables) (fun c => u0 ≤ c ∧ c < wx0.heap.size) (.slice (some ⟨p0_0, 0, none⟩) x0.tables.length x0.tables.length))) := fun W W' h hB => ⟨h.1.trans (hB.mono h.1.size), heap_keptD h.2.1 hB, heap_keptD h.2.2.1 hB, heap_keptD h.2.2.2.1 hB, h.2.2.2.2.1.later hB, heap_keptD h.2.2.2.2.2.1 hB, h.2.2.2.2.2.2.later hB⟩
 have M1 : Hid (Below w.heap.size w (wx0.alloc (.cells #[.slice (some ⟨p0_0, 0, none⟩) x0.tables.length x0.tables.length] 40)) ∧ (wx0.alloc (.cells #[.slice (some ⟨p0_0, 0, none⟩) x0.tables.length x0.tables.length] 40)).heap[w.heap.size]? = some (.cells #[.slice a0_0 x0.tables.length c0_0] 24) ∧ (wx0.alloc (.cells #[.slice (some ⟨p0_0, 0, none⟩) x0.tables.length x0.tables.length] 40)).heap[w.heap.size + 1]? = some (.cells #[.slice a1_0 x1.tables.length c1_0, .int .i64 x1.next] 27) ∧ (wx0.alloc (.cells #[.slice (some ⟨p0_0, 0, none⟩) x0.tables.length x0.tables.length] 40)).heap[w.heap.size + 1 + 1]? = some (.cells #[.string ⟨x2.nm.toArray⟩, .string ⟨x2.tb.toArray⟩, .slice a2_2 x2.cs.length c2_2, .bool x2.ini, .bool x2.ins, .bool x2.del, .bool x2.mod, .slice a2_7 x2.wh.length c2_7] 31) ∧ Rd (wx0.alloc (.cells #[.slice (some ⟨p0_0, 0, none⟩) x0.tables.length x0.tables.length] 40)) (· < wc.heap.size) (dRowS R0) (.slice ra R0.length rc) ∧ (wx0.alloc (.cells #[.slice (some ⟨p0_0, 0, none⟩) x0.tables.length x0.tables.length] 40)).heap[wx0.heap.size]? = some (.cells #[.slice (some ⟨p0_0, 0, none⟩) x0.tables.length x0.tables.length] 40) ∧ Own (wx0.alloc (.cells #[.slice (some ⟨p0_0, 0, none⟩) x0.tables.length x0.tables.length] 40)) (dTableS x0.tables) (fun c => u0 ≤ c ∧ c < wx0.heap.size) (.slice (some ⟨p0_0, 0, none⟩) x0.tables.length x0.tables.length)) := ⟨hm.1.trans ((below_allocD _ _).mono hm.1.size), heap_keptD hm.2.1 (below_allocD _ _), heap_keptD hm.2.2.1 (below_allocD _ _), heap_keptD hm.2.2.2.1 (below_allocD _ _), hm.2.2.2.2.later (below_allocD _ _), heap_newD _ _, (Owns.one ho (j := 0) (by omega)).later (below_allocD _ _)⟩
 clear f_arg0_0 f_arg1_0 f_arg1_1 f_arg2_0 f_arg2_1 f_arg2_2 f_arg2_3 f_arg2_4 f_arg2_5 f_arg2_6 f_arg2_7
 clear hm hB ho hu0 M0
 have f_arg0_0 := cell_at (o := 0) M1.out.2.1 rfl
 have f_arg1_0 := cell_at (o := 0) M1.out.2.2.1 rfl
 have f_arg1_1 := cell_at (o := 1) M1.out.2.2.1 rfl
 have f_arg2_0 := cell_at (o := 0) M1.out.2.2.2.1 rfl
 have f_arg2_1 := cell_at (o := 1) M1.out.2.2.2.1 rfl
 have f_arg2_2 := cell_at (o := 2) M1.out.2.2.2.1 rfl
 have f_arg2_3 := cell_at (o := 3) M1.out.2.2.2.1 rfl
 have f_arg2_4 := cell_at (o := 4) M1.out.2.2.2.1 rfl
 have f_arg2_5 := cell_at (o := 5) M1.out.2.2.2.1 rfl
 have f_arg2_6 := cell_at (o := 6) M1.out.2.2.2.1 rfl
 have f_arg2_7 := cell_at (o := 7) M1.out.2.2.2.1 rfl
 have f_x0_0 := cell_at (o := 0) M1.out.2.2.2.2.2.1 rfl
 go_wp2_with fail
 refine (TO1.out _ ⟨M1.out.1, M1.out.2.1, M1.out.2.2.1, M1.out.2.2.2.1⟩).mono ?_
 rintro e wx1 ⟨p1_0, rfl, ho, hB, -⟩
 have hm := S1L.out _ _ M1.out hB
 obtain ⟨u1, hu1⟩ : ∃ u, u = (wx0.alloc (.cells #[.slice (some ⟨p0_0, 0, none⟩) x0.tables.length x0.tables.length] 40)).heap.size := ⟨_, rfl⟩
 have U1 : Hid (wx0.heap.size + 1 ≤ u1 ∧ u1 ≤ wx1.heap.size) := by refine ⟨by first | omega | (rw [hu1]; simp), by rw [hu1]; exact hB.size⟩
 rw [← hu1] at ho
 have S2L : Hid (∀ W W', (Below w.heap.size w W ∧ W.heap[w.heap.size]? = some (.cells #[.slice a0_0 x0.tables.length c0_0] 24) ∧ W.heap[w.heap.size + 1]? = some (.cells #[.slice a1_0 x1.tables.length c1_0, .int .i64 x1.next] 27) ∧ W.heap[w.heap.size + 1 + 1]? = some (.cells #[.string ⟨x2.nm.toArray⟩, .string ⟨x2.tb.toArray⟩, .slice a2_2 x2.cs.length c2_2, .bool x2.ini, .bool x2.ins, .bool x2.del, .bool x2.mod, .slice a2_7 x2.wh.length c2_7] 31) ∧ Rd W (· < wc.heap.size) (dRowS R0) (.slice ra R0.length rc) ∧ W.heap[wx0.heap.size]? = some (.cells #[.slice (some ⟨p0_0, 0, none⟩) x0.tables.length x0.tables.length] 40) ∧ Own W (dTableS x0.tables) (fun c => u0 ≤ c ∧ c < wx0.heap.size) (.slice (some ⟨p0_0, 0, none⟩) x0.tables.length x0.tables.length) ∧ W.heap[wx1.heap.size]? = some (.cells #[.slice (some ⟨p1_0, 0, none⟩) x1.tables.length x1.tables.length, .int .i64 x1.next] 44) ∧ Own W (dRowSS x1.tables) (fun c => u1 ≤ c ∧ c < wx1.heap.size) (.slice (some ⟨p1_0, 0, none⟩) x1.tables.length x1.tables.length)) → Below W.heap.size W W' → (Below w.heap.size w W' ∧ W'.heap[w.heap.size]? = some (.cells #[.slice a0_0 x0.tables.length c0_0] 24) ∧ W'.heap[w.heap.size + 1]? = some (.cells #[.slice a1_0 x1.tables.length c1_0, .int .i64 x1.next] 27) ∧ W'.heap[w.heap.size + 1 + 1]? = some (.cells #[.string ⟨x2.nm.toArray⟩, .string ⟨x2.tb.toArray⟩, .slice a2_2 x2.cs.length c2_2, .bool x2.ini, .bool x2.ins, .bool x2.del, .bool x2.mod, .slice a2_7 x2.wh.length c2_7] 31) ∧ Rd W' (· < wc.heap.size) (dRowS R0) (.slice ra R0.length rc) ∧ W'.heap[wx0.heap.size]? = some (.cells #[.slice (some ⟨p0_0, 0, none⟩) x0.tables.length x0.tables.length] 40) ∧ Own W' (dTableS x0.tables) (fun c => u0 ≤ c ∧ c < wx0.heap.size) (.slice (some ⟨p0_0, 0, none⟩) x0.tables.length x0.tables.length) ∧ W'.heap[wx1.heap.size]? = some (.cells #[.slice (some ⟨p1_0, 0, none⟩) x1.tables.length x1.tables.length, .int .i64 x1.next] 44) ∧ Own W' (dRowSS x1.tables) (fun c => u1 ≤ c ∧ c < wx1.heap.size) (.slice (some ⟨p1_0, 0, none⟩) x1.tables.length x1.tables.length))) := fun W W' h hB => ⟨h.1.trans (hB.mono h.1.size), heap_keptD h.2.1 hB, heap_keptD h.2.2.1 hB, heap_keptD h.2.2.2.1 hB, h.2.2.2.2.1.later hB, heap_keptD h.2.2.2.2.2.1 hB, h.2.2.2.2.2.2.1.later hB, heap_keptD h.2.2.2.2.2.2.2.1 hB, h.2.2.2.2.2.2.2.2.later hB⟩
 have M2 : Hid (Below w.heap.size w (wx1.alloc (.cells #[.slice (some ⟨p1_0, 0, none⟩) x1.tables.length x1.tables.length, .int .i64 x1.next] 44)) ∧ (wx1.alloc (.cells #[.slice (some ⟨p1_0, 0, none⟩) x1.tables.length x1.tables.length, .int .i64 x1.next] 44)).heap[w.heap.size]? = some (.cells #[.slice a0_0 x0.tables.length c0_0] 24) ∧ (wx1.alloc (.cells #[.slice (some ⟨p1_0, 0, none⟩) x1.tables.length x1.tables.length, .int .i64 x1.next] 44)).heap[w.heap.size + 1]? = some (.cells #[.slice a1_0 x1.tables.length c1_0, .int .i64 x1.next] 27) ∧ (wx1.alloc (.cells #[.slice (some ⟨p1_0, 0, none⟩) x1.tables.length x1.tables.length, .int .i64 x1.next] 44)).heap[w.heap.size + 1 + 1]? = some (.cells #[.string ⟨x2.nm.toArray⟩, .string ⟨x2.tb.toArray⟩, .slice a2_2 x2.cs.length c2_2, .bool x2.ini, .bool x2.ins, .bool x2.del, .bool x2.mod, .slice a2_7 x2.wh.length c2_7] 31) ∧ Rd (wx1.alloc (.cells #[.slice (some ⟨p1_0, 0, none⟩) x1.tables.length x1.tables.length, .int .i64 x1.next] 44)) (· < wc.heap.size) (dRowS R0) (.slice ra R0.length rc) ∧ (wx1.alloc (.cells #[.slice (some ⟨p1_0, 0, none⟩) x1.tables.length x1.tables.length, .int .i64 x1.next] 44)).heap[wx0.heap.size]? = some (.cells #[.slice (some ⟨p0_0, 0, none⟩) x0.tables.length x0.tables.length] 40) ∧ Own (wx1.alloc (.cells #[.slice (some ⟨p1_0, 0, none⟩) x1.tables.length x1.tables.length, .int .i64 x1.next] 44)) (dTableS x0.tables) (fun c => u0 ≤ c ∧ c < wx0.heap.size) (.slice (some ⟨p0_0, 0, none⟩) x0.tables.length x0.tables.length) ∧ (wx1.alloc (.cells #[.slice (some ⟨p1_0, 0, none⟩) x1.tables.length x1.tables.length, .int .i64 x1.next] 44)).heap[wx1.heap.size]? = some (.cells #[.slice (some ⟨p1_0, 0, none⟩) x1.tables.length x1.tables.length, .int .i64 x1.next] 44) ∧ Own (wx1.alloc (.cells #[.slice (some ⟨p1_0, 0, none⟩) x1.tables.length x1.tables.length, .int .i64 x1.next] 44)) (dRowSS x1.tables) (fun c => u1 ≤ c ∧ c < wx1.heap.size) (.slice (some ⟨p1_0, 0, none⟩) x1.tables.length x1.tables.length)) := ⟨hm.1.trans ((below_allocD _ _).mono hm.1.size), heap_keptD hm.2.1 (below_allocD _ _), heap_keptD hm.2.2.1 (below_allocD _ _), heap_keptD hm.2.2.2.1 (below_allocD _ _), hm.2.2.2.2.1.later (below_allocD _ _), heap_keptD hm.2.2.2.2.2.1 (below_allocD _ _), hm.2.2.2.2.2.2.later (below_allocD _ _), heap_newD _ _, (Owns.one ho (j := 0) (by omega)).later (below_allocD _ _)⟩
 clear f_arg0_0 f_arg1_0 f_arg1_1 f_arg2_0 f_arg2_1 f_arg2_2 f_arg2_3 f_arg2_4 f_arg2_5 f_arg2_6 f_arg2_7 f_x0_0
 clear hm hB ho hu1 M1
 have f_arg0_0 := cell_at (o := 0) M2.out.2.1 rfl
 have f_arg1_0 := cell_at (o := 0) M2.out.2.2.1 rfl
 have f_arg1_1 := cell_at (o := 1) M2.out.2.2.1 rfl
 have f_arg2_0 := cell_at (o := 0) M2.out.2.2.2.1 rfl
 have f_arg2_1 := cell_at (o := 1) M2.out.2.2.2.1 rfl
 have f_arg2_2 := cell_at (o := 2) M2.out.2.2.2.1 rfl
 have f_arg2_3 := cell_at (o := 3) M2.out.2.2.2.1 rfl
 have f_arg2_4 := cell_at (o := 4) M2.out.2.2.2.1 rfl
 have f_arg2_5 := cell_at (o := 5) M2.out.2.2.2.1 rfl
 have f_arg2_6 := cell_at (o := 6) M2.out.2.2.2.1 rfl
 have f_arg2_7 := cell_at (o := 7) M2.out.2.2.2.1 rfl
 have f_x0_0 := cell_at (o := 0) M2.out.2.2.2.2.2.1 rfl
 have f_x1_0 := cell_at (o := 0) M2.out.2.2.2.2.2.2.2.1 rfl
 have f_x1_1 := cell_at (o := 1) M2.out.2.2.2.2.2.2.2.1 rfl
 go_wp2_with fail
 refine (TO2.out _ ⟨M2.out.1, M2.out.2.1, M2.out.2.2.1, M2.out.2.2.2.1⟩).mono ?_
 rintro e wx2 ⟨p2_2, p2_7, rfl, ho, hB, -⟩
 have hm := S2L.out _ _ M2.out hB
 obtain ⟨u2, hu2⟩ : ∃ u, u = (wx1.alloc (.cells #[.slice (some ⟨p1_0, 0, none⟩) x1.tables.length x1.tables.length, .int .i64 x1.next] 44)).heap.size := ⟨_, rfl⟩
 have U2 : Hid (wx1.heap.size + 1 ≤ u2 ∧ u2 ≤ wx2.heap.size) := by refine ⟨by first | omega | (rw [hu2]; simp), by rw [hu2]; exact hB.size⟩
 rw [← hu2] at ho
 obtain ⟨Y2, hy1, hy2, hy3⟩ := ho
 have YS2 := Lib.hid hy1
 have YD2 := Lib.hid hy2
 have S3L : Hid (∀ W W', (Below w.heap.size w W ∧ W.heap[w.heap.size]? = some (.cells #[.slice a0_0 x0.tables.length c0_0] 24) ∧ W.heap[w.heap.size + 1]? = some (.cells #[.slice a1_0 x1.tables.length c1_0, .int .i64 x1.next] 27) ∧ W.heap[w.heap.size + 1 + 1]? = some (.cells #[.string ⟨x2.nm.toArray⟩, .string ⟨x2.tb.toArray⟩, .slice a2_2 x2.cs.length c2_2, .bool x2.ini, .bool x2.ins, .bool x2.del, .bool x2.mod, .slice a2_7 x2.wh.length c2_7] 31) ∧ Rd W (· < wc.heap.size) (dRowS R0) (.slice ra R0.length rc) ∧ W.heap[wx0.heap.size]? = some (.cells #[.slice (some ⟨p0_0, 0, none⟩) x0.tables.length x0.tables.length] 40) ∧ Own W (dTableS x0.tables) (fun c => u0 ≤ c ∧ c < wx0.heap.size) (.slice (some ⟨p0_0, 0, none⟩) x0.tables.length x0.tables.length) ∧ W.heap[wx1.heap.size]? = some (.cells #[.slice (some ⟨p1_0, 0, none⟩) x1.tables.length x1.tables.length, .int .i64 x1.next] 44) ∧ Own W (dRowSS x1.tables) (fun c => u1 ≤ c ∧ c < wx1.heap.size) (.slice (some ⟨p1_0, 0, none⟩) x1.tables.length x1.tables.length) ∧ W.heap[wx2.heap.size]? = some (.cells #[.string ⟨x2.nm.toArray⟩, .string ⟨x2.tb.toArray⟩, .slice (some ⟨p2_2, 0, none⟩) x2.cs.length x2.cs.length, .bool x2.ini, .bool x2.ins, .bool x2.del, .bool x2.mod, .slice (some ⟨p2_7, 0, none⟩) x2.wh.length x2.wh.length] 48) ∧ Own W (dStringS x2.cs) (Y2 2) (.slice (some ⟨p2_2, 0, none⟩) x2.cs.length x2.cs.length) ∧ Own W (dCondS x2.wh) (Y2 7) (.slice (some ⟨p2_7, 0, none⟩) x2.wh.length x2.wh.length)) → Below W.heap.size W W' → (Below w.heap.size w W' ∧ W'.heap[w.heap.size]? = some (.cells #[.slice a0_0 x0.tables.length c0_0] 24) ∧ W'.heap[w.heap.size + 1]? = some (.cells #[.slice a1_0 x1.tables.length c1_0, .int .i64 x1.next] 27) ∧ W'.heap[w.heap.size + 1 + 1]? = some (.cells #[.string ⟨x2.nm.toArray⟩, .string ⟨x2.tb.toArray⟩, .slice a2_2 x2.cs.length c2_2, .bool x2.ini, .bool x2.ins, .bool x2.del, .bool x2.mod, .slice a2_7 x2.wh.length c2_7] 31) ∧ Rd W' (· < wc.heap.size) (dRowS R0) (.slice ra R0.length rc) ∧ W'.heap[wx0.heap.size]? = some (.cells #[.slice (some ⟨p0_0, 0, none⟩) x0.tables.length x0.tables.length] 40) ∧ Own W' (dTableS x0.tables) (fun c => u0 ≤ c ∧ c < wx0.heap.size) (.slice (some ⟨p0_0, 0, none⟩) x0.tables.length x0.tables.length) ∧ W'.heap[wx1.heap.size]? = some (.cells #[.slice (some ⟨p1_0, 0, none⟩) x1.tables.length x1.tables.length, .int .i64 x1.next] 44) ∧ Own W' (dRowSS x1.tables) (fun c => u1 ≤ c ∧ c < wx1.heap.size) (.slice (some ⟨p1_0, 0, none⟩) x1.tables.length x1.tables.length) ∧ W'.heap[wx2.heap.size]? = some (.cells #[.string ⟨x2.nm.toArray⟩, .string ⟨x2.tb.toArray⟩, .slice (some ⟨p2_2, 0, none⟩) x2.cs.length x2.cs.length, .bool x2.ini, .bool x2.ins, .bool x2.del, .bool x2.mod, .slice (some ⟨p2_7, 0, none⟩) x2.wh.length x2.wh.length] 48) ∧ Own W' (dStringS x2.cs) (Y2 2) (.slice (some ⟨p2_2, 0, none⟩) x2.cs.length x2.cs.length) ∧ Own W' (dCondS x2.wh) (Y2 7) (.slice (some ⟨p2_7, 0, none⟩) x2.wh.length x2.wh.length))) := fun W W' h hB => ⟨h.1.trans (hB.mono h.1.size), heap_keptD h.2.1 hB, heap_keptD h.2.2.1 hB, heap_keptD h.2.2.2.1 hB, h.2.2.2.2.1.later hB, heap_keptD h.2.2.2.2.2.1 hB, h.2.2.2.2.2.2.1.later hB, heap_keptD h.2.2.2.2.2.2.2.1 hB, h.2.2.2.2.2.2.2.2.1.later hB, heap_keptD h.2.2.2.2.2.2.2.2.2.1 hB, h.2.2.2.2.2.2.2.2.2.2.1.later hB, h.2.2.2.2.2.2.2.2.2.2.2.later hB⟩
 have M3 : Hid (Below w.heap.size w (wx2.alloc (.cells #[.string ⟨x2.nm.toArray⟩, .string ⟨x2.tb.toArray⟩, .slice (some ⟨p2_2, 0, none⟩) x2.cs.length x2.cs.length, .bool x2.ini, .bool x2.ins, .bool x2.del, .bool x2.mod, .slice (some ⟨p2_7, 0, none⟩) x2.wh.length x2.wh.length] 48)) ∧ (wx2.alloc (.cells #[.string ⟨x2.nm.toArray⟩, .string ⟨x2.tb.toArray⟩, .slice (some ⟨p2_2, 0, none⟩) x2.cs.length x2.cs.length, .bool x2.ini, .bool x2.ins, .bool x2.del, .bool x2.mod, .slice (some ⟨p2_7, 0, none⟩) x2.wh.length x2.wh.length] 48)).heap[w.heap.size]? = some (.cells #[.slice a0_0 x0.tables.length c0_0] 24) ∧ (wx2.alloc (.cells #[.string ⟨x2.nm.toArray⟩, .string ⟨x2.tb.toArray⟩, .slice (some ⟨p2_2, 0, none⟩) x2.cs.length x2.cs.length, .bool x2.ini, .bool x2.ins, .bool x2.del, .bool x2.mod, .slice (some ⟨p2_7, 0, none⟩) x2.wh.length x2.wh.length] 48)).heap[w.heap.size + 1]? = some (.cells #[.slice a1_0 x1.tables.length c1_0, .int .i64 x1.next] 27) ∧ (wx2.alloc (.cells #[.string ⟨x2.nm.toArray⟩, .string ⟨x2.tb.toArray⟩, .slice (some ⟨p2_2, 0, none⟩) x2.cs.length x2.cs.length, .bool x2.ini, .bool x2.ins, .bool x2.del, .bool x2.mod, .slice (some ⟨p2_7, 0, none⟩) x2.wh.length x2.wh.length] 48)).heap[w.heap.size + 1 + 1]? = some (.cells #[.string ⟨x2.nm.toArray⟩, .string ⟨x2.tb.toArray⟩, .slice a2_2 x2.cs.length c2_2, .bool x2.ini, .bool x2.ins, .bool x2.del, .bool x2.mod, .slice a2_7 x2.wh.length c2_7] 31) ∧ Rd (wx2.alloc (.cells #[.string ⟨x2.nm.toArray⟩, .string ⟨x2.tb.toArray⟩, .slice (some ⟨p2_2, 0, none⟩) x2.cs.length x2.cs.length, .bool x2.ini, .bool x2.ins, .bool x2.del, .bool x2.mod, .slice (some ⟨p2_7, 0, none⟩) x2.wh.length x2.wh.length] 48)) (· < wc.heap.size) (dRowS R0) (.slice ra R0.length rc) ∧ (wx2.alloc (.cells #[.string ⟨x2.nm.toArray⟩, .string ⟨x2.tb.toArray⟩, .slice (some ⟨p2_2, 0, none⟩) x2.cs.length x2.cs.length, .bool x2.ini, .bool x2.ins, .bool x2.del, .bool x2.mod, .slice (some ⟨p2_7, 0, none⟩) x2.wh.length x2.wh.length] 48)).heap[wx0.heap.size]? = some (.cells #[.slice (some ⟨p0_0, 0, none⟩) x0.tables.length x0.tables.length] 40) ∧ Own (wx2.alloc (.cells #[.string ⟨x2.nm.toArray⟩, .string ⟨x2.tb.toArray⟩, .slice (some ⟨p2_2, 0, none⟩) x2.cs.length x2.cs.length, .bool x2.ini, .bool x2.ins, .bool x2.del, .bool x2.mod, .slice (some ⟨p2_7, 0, none⟩) x2.wh.length x2.wh.length] 48)) (dTableS x0.tables) (fun c => u0 ≤ c ∧ c < wx0.heap.size) (.slice (some ⟨p0_0, 0, none⟩) x0.tables.length x0.tables.length) ∧ (wx2.alloc (.cells #[.string ⟨x2.nm.toArray⟩, .string ⟨x2.tb.toArray⟩, .slice (some ⟨p2_2, 0, none⟩) x2.cs.length x2.cs.length, .bool x2.ini, .bool x2.ins, .bool x2.del, .bool x2.mod, .slice (some ⟨p2_7, 0, none⟩) x2.wh.length x2.wh.length] 48)).heap[wx1.heap.size]? = some (.cells #[.slice (some ⟨p1_0, 0, none⟩) x1.tables.length x1.tables.length, .int .i64 x1.next] 44) ∧ Own (wx2.alloc (.cells #[.string ⟨x2.nm.toArray⟩, .string ⟨x2.tb.toArray⟩, .slice (some ⟨p2_2, 0, none⟩) x2.cs.length x2.cs.length, .bool x2.ini, .bool x2.ins, .bool x2.del, .bool x2.mod, .slice (some ⟨p2_7, 0, none⟩) x2.wh.length x2.wh.length] 48)) (dRowSS x1.tables) (fun c => u1 ≤ c ∧ c < wx1.heap.size) (.slice (some ⟨p1_0, 0, none⟩) x1.tables.length x1.tables.length) ∧ (wx2.alloc (.cells #[.string ⟨x2.nm.toArray⟩, .string ⟨x2.tb.toArray⟩, .slice (some ⟨p2_2, 0, none⟩) x2.cs.length x2.cs.length, .bool x2.ini, .bool x2.ins, .bool x2.del, .bool x2.mod, .slice (some ⟨p2_7, 0, none⟩) x2.wh.length x2.wh.length] 48)).heap[wx2.heap.size]? = some (.cells #[.string ⟨x2.nm.toArray⟩, .string ⟨x2.tb.toArray⟩, .slice (some ⟨p2_2, 0, none⟩) x2.cs.length x2.cs.length, .bool x2.ini, .bool x2.ins, .bool x2.del, .bool x2.mod, .slice (some ⟨p2_7, 0, none⟩) x2.wh.length x2.wh.length] 48) ∧ Own (wx2.alloc (.cells #[.string ⟨x2.nm.toArray⟩, .string ⟨x2.tb.toArray⟩, .slice (some ⟨p2_2, 0, none⟩) x2.cs.length x2.cs.length, .bool x2.ini, .bool x2.ins, .bool x2.del, .bool x2.mod, .slice (some ⟨p2_7, 0, none⟩) x2.wh.length x2.wh.length] 48)) (dStringS x2.cs) (Y2 2) (.slice (some ⟨p2_2, 0, none⟩) x2.cs.length x2.cs.length) ∧ Own (wx2.alloc (.cells #[.string ⟨x2.nm.toArray⟩, .string ⟨x2.tb.toArray⟩, .slice (some ⟨p2_2, 0, none⟩) x2.cs.length x2.cs.length, .bool x2.ini, .bool x2.ins, .bool x2.del, .bool x2.mod, .slice (some ⟨p2_7, 0, none⟩) x2.wh.length x2.wh.length] 48)) (dCondS x2.wh) (Y2 7) (.slice (some ⟨p2_7, 0, none⟩) x2.wh.length x2.wh.length)) := ⟨hm.1.trans ((below_allocD _ _).mono hm.1.size), heap_keptD hm.2.1 (below_allocD _ _), heap_keptD hm.2.2.1 (below_allocD _ _), heap_keptD hm.2.2.2.1 (below_allocD _ _), hm.2.2.2.2.1.later (below_allocD _ _), heap_keptD hm.2.2.2.2.2.1 (below_allocD _ _), hm.2.2.2.2.2.2.1.later (below_allocD _ _), heap_keptD hm.2.2.2.2.2.2.2.1 (below_allocD _ _), hm.2.2.2.2.2.2.2.2.later (below_allocD _ _), heap_newD _ _, (hy3 2 (by omega)).later (below_allocD _ _), (hy3 7 (by omega)).later (below_allocD _ _)⟩
 clear f_arg0_0 f_arg1_0 f_arg1_1 f_arg2_0 f_arg2_1 f_arg2_2 f_arg2_3 f_arg2_4 f_arg2_5 f_arg2_6 f_arg2_7 f_x0_0 f_x1_0 f_x1_1
 clear hm hB hy1 hy2 hy3 hu2 M2
 have f_arg0_0 := cell_at (o := 0) M3.out.2.1 rfl
 have f_arg1_0 := cell_at (o := 0) M3.out.2.2.1 rfl
 have f_arg1_1 := cell_at (o := 1) M3.out.2.2.1 rfl
 have f_arg2_0 := cell_at (o := 0) M3.out.2.2.2.1 rfl
 have f_arg2_1 := cell_at (o := 1) M3.out.2.2.2.1 rfl
 have f_arg2_2 := cell_at (o := 2) M3.out.2.2.2.1 rfl
 have f_arg2_3 := cell_at (o := 3) M3.out.2.2.2.1 rfl
 have f_arg2_4 := cell_at (o := 4) M3.out.2.2.2.1 rfl
 have f_arg2_5 := cell_at (o := 5) M3.out.2.2.2.1 rfl
 have f_arg2_6 := cell_at (o := 6) M3.out.2.2.2.1 rfl
 have f_arg2_7 := cell_at (o := 7) M3.out.2.2.2.1 rfl
 have f_x0_0 := cell_at (o := 0) M3.out.2.2.2.2.2.1 rfl
 have f_x1_0 := cell_at (o := 0) M3.out.2.2.2.2.2.2.2.1 rfl
 have f_x1_1 := cell_at (o := 1) M3.out.2.2.2.2.2.2.2.1 rfl
 have f_x2_0 := cell_at (o := 0) M3.out.2.2.2.2.2.2.2.2.2.1 rfl
 have f_x2_1 := cell_at (o := 1) M3.out.2.2.2.2.2.2.2.2.2.1 rfl
 have f_x2_2 := cell_at (o := 2) M3.out.2.2.2.2.2.2.2.2.2.1 rfl
 have f_x2_3 := cell_at (o := 3) M3.out.2.2.2.2.2.2.2.2.2.1 rfl
 have f_x2_4 := cell_at (o := 4) M3.out.2.2.2.2.2.2.2.2.2.1 rfl
 have f_x2_5 := cell_at (o := 5) M3.out.2.2.2.2.2.2.2.2.2.1 rfl
 have f_x2_6 := cell_at (o := 6) M3.out.2.2.2.2.2.2.2.2.2.1 rfl
 have f_x2_7 := cell_at (o := 7) M3.out.2.2.2.2.2.2.2.2.2.1 rfl
 go_wp2_with fail
 refine (CI.out _ _ _ _ _ _ _ _ _ (Rd.any (Own.rd' (M3.out.2.2.2.2.2.2.1))) (Rd.any (Own.rd' (M3.out.2.2.2.2.2.2.2.2.1))) (Rd.any (Own.rd' (M3.out.2.2.2.2.2.2.2.2.2.2.1))) (Rd.any (Own.rd' (M3.out.2.2.2.2.2.2.2.2.2.2.2))) (M3.out.1)).mono ?_
 rintro e wg ⟨ga, gc, rfl, ho, hB⟩
 have hm := S3L.out _ _ M3.out hB
 obtain ⟨ug, hug⟩ : ∃ u, u = (wx2.alloc (.cells #[.string ⟨x2.nm.toArray⟩, .string ⟨x2.tb.toArray⟩, .slice (some ⟨p2_2, 0, none⟩) x2.cs.length x2.cs.length, .bool x2.ini, .bool x2.ins, .bool x2.del, .bool x2.mod, .slice (some ⟨p2_7, 0, none⟩) x2.wh.length x2.wh.length] 48)).heap.size := ⟨_, rfl⟩
 have UG : Hid (wx2.heap.size + 1 ≤ ug ∧ ug ≤ wg.heap.size) := by refine ⟨by first | omega | (rw [hug]; simp), by rw [hug]; exact hB.size⟩
 rw [← hug] at ho
 have SGL : Hid (∀ W W', (Below w.heap.size w W ∧ W.heap[w.heap.size]? = some (.cells #[.slice a0_0 x0.tables.length c0_0] 24) ∧ W.heap[w.heap.size + 1]? = some (.cells #[.slice a1_0 x1.tables.length c1_0, .int .i64 x1.next] 27) ∧ W.heap[w.heap.size + 1 + 1]? = some (.cells #[.string ⟨x2.nm.toArray⟩, .string ⟨x2.tb.toArray⟩, .slice a2_2 x2.cs.length c2_2, .bool x2.ini, .bool x2.ins, .bool x2.del, .bool x2.mod, .slice a2_7 x2.wh.length c2_7] 31) ∧ Rd W (· < wc.heap.size) (dRowS R0) (.slice ra R0.length rc) ∧ W.heap[wx0.heap.size]? = some (.cells #[.slice (some ⟨p0_0, 0, none⟩) x0.tables.length x0.tables.length] 40) ∧ Own W (dTableS x0.tables) (fun c => u0 ≤ c ∧ c < wx0.heap.size) (.slice (some ⟨p0_0, 0, none⟩) x0.tables.length x0.tables.length) ∧ W.heap[wx1.heap.size]? = some (.cells #[.slice (some ⟨p1_0, 0, none⟩) x1.tables.length x1.tables.length, .int .i64 x1.next] 44) ∧ Own W (dRowSS x1.tables) (fun c => u1 ≤ c ∧ c < wx1.heap.size) (.slice (some ⟨p1_0, 0, none⟩) x1.tables.length x1.tables.length) ∧ W.heap[wx2.heap.size]? = some (.cells #[.string ⟨x2.nm.toArray⟩, .string ⟨x2.tb.toArray⟩, .slice (some ⟨p2_2, 0, none⟩) x2.cs.length x2.cs.length, .bool x2.ini, .bool x2.ins, .bool x2.del, .bool x2.mod, .slice (some ⟨p2_7, 0, none⟩) x2.wh.length x2.wh.length] 48) ∧ Own W (dStringS x2.cs) (Y2 2) (.slice (some ⟨p2_2, 0, none⟩) x2.cs.length x2.cs.length) ∧ Own W (dCondS x2.wh) (Y2 7) (.slice (some ⟨p2_7, 0, none⟩) x2.wh.length x2.wh.length) ∧ Own W (dRowS R0) (fun c => ug ≤ c ∧ c < wg.heap.size) (.slice ga R0.length gc)) → Below W.heap.size W W' → (Below w.heap.size w W' ∧ W'.heap[w.heap.size]? = some (.cells #[.slice a0_0 x0.tables.length c0_0] 24) ∧ W'.heap[w.heap.size + 1]? = some (.cells #[.slice a1_0 x1.tables.length c1_0, .int .i64 x1.next] 27) ∧ W'.heap[w.heap.size + 1 + 1]? = some (.cells #[.string ⟨x2.nm.toArray⟩, .string ⟨x2.tb.toArray⟩, .slice a2_2 x2.cs.length c2_2, .bool x2.ini, .bool x2.ins, .bool x2.del, .bool x2.mod, .slice a2_7 x2.wh.length c2_7] 31) ∧ Rd W' (· < wc.heap.size) (dRowS R0) (.slice ra R0.length rc) ∧ W'.heap[wx0.heap.size]? = some (.cells #[.slice (some ⟨p0_0, 0, none⟩) x0.tables.length x0.tables.length] 40) ∧ Own W' (dTableS x0.tables) (fun c => u0 ≤ c ∧ c < wx0.heap.size) (.slice (some ⟨p0_0, 0, none⟩) x0.tables.length x0.tables.length) ∧ W'.heap[wx1.heap.size]? = some (.cells #[.slice (some ⟨p1_0, 0, none⟩) x1.tables.length x1.tables.length, .int .i64 x1.next] 44) ∧ Own W' (dRowSS x1.tables) (fun c => u1 ≤ c ∧ c < wx1.heap.size) (.slice (some ⟨p1_0, 0, none⟩) x1.tables.length x1.tables.length) ∧ W'.heap[wx2.heap.size]? = some (.cells #[.string ⟨x2.nm.toArray⟩, .string ⟨x2.tb.toArray⟩, .slice (some ⟨p2_2, 0, none⟩) x2.cs.length x2.cs.length, .bool x2.ini, .bool x2.ins, .bool x2.del, .bool x2.mod, .slice (some ⟨p2_7, 0, none⟩) x2.wh.length x2.wh.length] 48) ∧ Own W' (dStringS x2.cs) (Y2 2) (.slice (some ⟨p2_2, 0, none⟩) x2.cs.length x2.cs.length) ∧ Own W' (dCondS x2.wh) (Y2 7) (.slice (some ⟨p2_7, 0, none⟩) x2.wh.length x2.wh.length) ∧ Own W' (dRowS R0) (fun c => ug ≤ c ∧ c < wg.heap.size) (.slice ga R0.length gc))) := fun W W' h hB => ⟨h.1.trans (hB.mono h.1.size), heap_keptD h.2.1 hB, heap_keptD h.2.2.1 hB, heap_keptD h.2.2.2.1 hB, h.2.2.2.2.1.later hB, heap_keptD h.2.2.2.2.2.1 hB, h.2.2.2.2.2.2.1.later hB, heap_keptD h.2.2.2.2.2.2.2.1 hB, h.2.2.2.2.2.2.2.2.1.later hB, heap_keptD h.2.2.2.2.2.2.2.2.2.1 hB, h.2.2.2.2.2.2.2.2.2.2.1.later hB, h.2.2.2.2.2.2.2.2.2.2.2.1.later hB, h.2.2.2.2.2.2.2.2.2.2.2.2.later hB⟩
 have MG : Hid (Below w.heap.size w wg ∧ wg.heap[w.heap.size]? = some (.cells #[.slice a0_0 x0.tables.length c0_0] 24) ∧ wg.heap[w.heap.size + 1]? = some (.cells #[.slice a1_0 x1.tables.length c1_0, .int .i64 x1.next] 27) ∧ wg.heap[w.heap.size + 1 + 1]? = some (.cells #[.string ⟨x2.nm.toArray⟩, .string ⟨x2.tb.toArray⟩, .slice a2_2 x2.cs.length c2_2, .bool x2.ini, .bool x2.ins, .bool x2.del, .bool x2.mod, .slice a2_7 x2.wh.length c2_7] 31) ∧ Rd wg (· < wc.heap.size) (dRowS R0) (.slice ra R0.length rc) ∧ wg.heap[wx0.heap.size]? = some (.cells #[.slice (some ⟨p0_0, 0, none⟩) x0.tables.length x0.tables.length] 40) ∧ Own wg (dTableS x0.tables) (fun c => u0 ≤ c ∧ c < wx0.heap.size) (.slice (some ⟨p0_0, 0, none⟩) x0.tables.length x0.tables.length) ∧ wg.heap[wx1.heap.size]? = some (.cells #[.slice (some ⟨p1_0, 0, none⟩) x1.tables.length x1.tables.length, .int .i64 x1.next] 44) ∧ Own wg (dRowSS x1.tables) (fun c => u1 ≤ c ∧ c < wx1.heap.size) (.slice (some ⟨p1_0, 0, none⟩) x1.tables.length x1.tables.length) ∧ wg.heap[wx2.heap.size]? = some (.cells #[.string ⟨x2.nm.toArray⟩, .string ⟨x2.tb.toArray⟩, .slice (some ⟨p2_2, 0, none⟩) x2.cs.length x2.cs.length, .bool x2.ini, .bool x2.ins, .bool x2.del, .bool x2.mod, .slice (some ⟨p2_7, 0, none⟩) x2.wh.length x2.wh.length] 48) ∧ Own wg (dStringS x2.cs) (Y2 2) (.slice (some ⟨p2_2, 0, none⟩) x2.cs.length x2.cs.length) ∧ Own wg (dCondS x2.wh) (Y2 7) (.slice (some ⟨p2_7, 0, none⟩) x2.wh.length x2.wh.length) ∧ Own wg (dRowS R0) (fun c => ug ≤ c ∧ c < wg.heap.size) (.slice ga R0.length gc)) := ⟨hm.1.trans ((Below.refl _ _).mono hm.1.size), heap_keptD hm.2.1 (Below.refl _ _), heap_keptD hm.2.2.1 (Below.refl _ _), heap_keptD hm.2.2.2.1 (Below.refl _ _), hm.2.2.2.2.1.later (Below.refl _ _), heap_keptD hm.2.2.2.2.2.1 (Below.refl _ _), hm.2.2.2.2.2.2.1.later (Below.refl _ _), heap_keptD hm.2.2.2.2.2.2.2.1 (Below.refl _ _), hm.2.2.2.2.2.2.2.2.1.later (Below.refl _ _), heap_keptD hm.2.2.2.2.2.2.2.2.2.1 (Below.refl _ _), hm.2.2.2.2.2.2.2.2.2.2.1.later (Below.refl _ _), hm.2.2.2.2.2.2.2.2.2.2.2.later (Below.refl _ _), ho.later (Below.refl _ _)⟩
 clear f_arg0_0 f_arg1_0 f_arg1_1 f_arg2_0 f_arg2_1 f_arg2_2 f_arg2_3 f_arg2_4 f_arg2_5 f_arg2_6 f_arg2_7 f_x0_0 f_x1_0 f_x1_1 f_x2_0 f_x2_1 f_x2_2 f_x2_3 f_x2_4 f_x2_5 f_x2_6 f_x2_7
 clear hm hB ho hug M3
 have ORD := Lib.hid (And.intro (O0.out) (And.intro (U0.out) (And.intro (U1.out) (And.intro (U2.out) (UG.out)))))
 have f_arg0_0 := cell_at (o := 0) MG.out.2.1 rfl
 have f_arg1_0 := cell_at (o := 0) MG.out.2.2.1 rfl
 have f_arg1_1 := cell_at (o := 1) MG.out.2.2.1 rfl
 have f_arg2_0 := cell_at (o := 0) MG.out.2.2.2.1 rfl
 have f_arg2_1 := cell_at (o := 1) MG.out.2.2.2.1 rfl
 have f_arg2_2 := cell_at (o := 2) MG.out.2.2.2.1 rfl
 have f_arg2_3 := cell_at (o := 3) MG.out.2.2.2.1 rfl
 have f_arg2_4 := cell_at (o := 4) MG.out.2.2.2.1 rfl
 have f_arg2_5 := cell_at (o := 5) MG.out.2.2.2.1 rfl
 have f_arg2_6 := cell_at (o := 6) MG.out.2.2.2.1 rfl
 have f_arg2_7 := cell_at (o := 7) MG.out.2.2.2.1 rfl
 have f_x0_0 := cell_at (o := 0) MG.out.2.2.2.2.2.1 rfl
 have f_x1_0 := cell_at (o := 0) MG.out.2.2.2.2.2.2.2.1 rfl
 have f_x1_1 := cell_at (o := 1) MG.out.2.2.2.2.2.2.2.1 rfl
 have f_x2_0 := cell_at (o := 0) MG.out.2.2.2.2.2.2.2.2.2.1 rfl
 have f_x2_1 := cell_at (o := 1) MG.out.2.2.2.2.2.2.2.2.2.1 rfl
 have f_x2_2 := cell_at (o := 2) MG.out.2.2.2.2.2.2.2.2.2.1 rfl
 have f_x2_3 := cell_at (o := 3) MG.out.2.2.2.2.2.2.2.2.2.1 rfl
 have f_x2_4 := cell_at (o := 4) MG.out.2.2.2.2.2.2.2.2.2.1 rfl
 have f_x2_5 := cell_at (o := 5) MG.out.2.2.2.2.2.2.2.2.2.1 rfl
 have f_x2_6 := cell_at (o := 6) MG.out.2.2.2.2.2.2.2.2.2.1 rfl
 have f_x2_7 := cell_at (o := 7) MG.out.2.2.2.2.2.2.2.2.2.1 rfl
 go_wp2_with fail
 refine (EQR.out _ _ _ _ _ (Rd.any (Own.rd' (MG.out.2.2.2.2.2.2.2.2.2.2.2.2))) (Rd.any (MG.out.2.2.2.2.1))).mono ?_
 rintro e wc0 ⟨rfl, hB⟩
 have N1 := Lib.hid (SGL.out _ _ MG.out hB)
 clear f_arg0_0 f_arg1_0 f_arg1_1 f_arg2_0 f_arg2_1 f_arg2_2 f_arg2_3 f_arg2_4 f_arg2_5 f_arg2_6 f_arg2_7 f_x0_0 f_x1_0 f_x1_1 f_x2_0 f_x2_1 f_x2_2 f_x2_3 f_x2_4 f_x2_5 f_x2_6 f_x2_7
 clear hB MG
 have f_arg0_0 := cell_at (o := 0) N1.out.2.1 rfl
 have f_arg1_0 := cell_at (o := 0) N1.out.2.2.1 rfl
 have f_arg1_1 := cell_at (o := 1) N1.out.2.2.1 rfl
 have f_arg2_0 := cell_at (o := 0) N1.out.2.2.2.1 rfl
 have f_arg2_1 := cell_at (o := 1) N1.out.2.2.2.1 rfl
 have f_arg2_2 := cell_at (o := 2) N1.out.2.2.2.1 rfl
 have f_arg2_3 := cell_at (o := 3) N1.out.2.2.2.1 rfl
 have f_arg2_4 := cell_at (o := 4) N1.out.2.2.2.1 rfl
 have f_arg2_5 := cell_at (o := 5) N1.out.2.2.2.1 rfl
 have f_arg2_6 := cell_at (o := 6) N1.out.2.2.2.1 rfl
 have f_arg2_7 := cell_at (o := 7) N1.out.2.2.2.1 rfl
 have f_x0_0 := cell_at (o := 0) N1.out.2.2.2.2.2.1 rfl
 have f_x1_0 := cell_at (o := 0) N1.out.2.2.2.2.2.2.2.1 rfl
 have f_x1_1 := cell_at (o := 1) N1.out.2.2.2.2.2.2.2.1 rfl
 have f_x2_0 := cell_at (o := 0) N1.out.2.2.2.2.2.2.2.2.2.1 rfl
 have f_x2_1 := cell_at (o := 1) N1.out.2.2.2.2.2.2.2.2.2.1 rfl
 have f_x2_2 := cell_at (o := 2) N1.out.2.2.2.2.2.2.2.2.2.1 rfl
 have f_x2_3 := cell_at (o := 3) N1.out.2.2.2.2.2.2.2.2.2.1 rfl
 have f_x2_4 := cell_at (o := 4) N1.out.2.2.2.2.2.2.2.2.2.1 rfl
 have f_x2_5 := cell_at (o := 5) N1.out.2.2.2.2.2.2.2.2.2.1 rfl
 have f_x2_6 := cell_at (o := 6) N1.out.2.2.2.2.2.2.2.2.2.1 rfl
 have f_x2_7 := cell_at (o := 7) N1.out.2.2.2.2.2.2.2.2.2.1 rfl
 go_wp2_with fail
 have CE0 : Hid (∀ W, (Below w.heap.size w W ∧ W.heap[w.heap.size]? = some (.cells #[.slice a0_0 x0.tables.length c0_0] 24) ∧ W.heap[w.heap.size + 1]? = some (.cells #[.slice a1_0 x1.tables.length c1_0, .int .i64 x1.next] 27) ∧ W.heap[w.heap.size + 1 + 1]? = some (.cells #[.string ⟨x2.nm.toArray⟩, .string ⟨x2.tb.toArray⟩, .slice a2_2 x2.cs.length c2_2, .bool x2.ini, .bool x2.ins, .bool x2.del, .bool x2.mod, .slice a2_7 x2.wh.length c2_7] 31) ∧ Rd W (· < wc.heap.size) (dRowS R0) (.slice ra R0.length rc) ∧ W.heap[wx0.heap.size]? = some (.cells #[.slice (some ⟨p0_0, 0, none⟩) x0.tables.length x0.tables.length] 40) ∧ Own W (dTableS x0.tables) (fun c => u0 ≤ c ∧ c < wx0.heap.size) (.slice (some ⟨p0_0, 0, none⟩) x0.tables.length x0.tables.length) ∧ W.heap[wx1.heap.size]? = some (.cells #[.slice (some ⟨p1_0, 0, none⟩) x1.tables.length x1.tables.length, .int .i64 x1.next] 44) ∧ Own W (dRowSS x1.tables) (fun c => u1 ≤ c ∧ c < wx1.heap.size) (.slice (some ⟨p1_0, 0, none⟩) x1.tables.length x1.tables.length) ∧ W.heap[wx2.heap.size]? = some (.cells #[.string ⟨x2.nm.toArray⟩, .string ⟨x2.tb.toArray⟩, .slice (some ⟨p2_2, 0, none⟩) x2.cs.length x2.cs.length, .bool x2.ini, .bool x2.ins, .bool x2.del, .bool x2.mod, .slice (some ⟨p2_7, 0, none⟩) x2.wh.length x2.wh.length] 48) ∧ Own W (dStringS x2.cs) (Y2 2) (.slice (some ⟨p2_2, 0, none⟩) x2.cs.length x2.cs.length) ∧ Own W (dCondS x2.wh) (Y2 7) (.slice (some ⟨p2_7, 0, none⟩) x2.wh.length x2.wh.length) ∧ Own W (dRowS R0) (fun c => ug ≤ c ∧ c < wg.heap.size) (.slice ga R0.length gc)) → (W.cell? ⟨w.heap.size, 0, none⟩ = some (.slice a0_0 x0.tables.length c0_0) ∧ W.cell? ⟨wx0.heap.size, 0, none⟩ = some (.slice (some ⟨p0_0, 0, none⟩) x0.tables.length x0.tables.length))) := fun W h => ⟨cell_at (o := 0) h.2.1 rfl, cell_at (o := 0) h.2.2.2.2.2.1 rfl⟩
 have XA0 : Hid (∀ W, (Below w.heap.size w W ∧ W.heap[w.heap.size]? = some (.cells #[.slice a0_0 x0.tables.length c0_0] 24) ∧ W.heap[w.heap.size + 1]? = some (.cells #[.slice a1_0 x1.tables.length c1_0, .int .i64 x1.next] 27) ∧ W.heap[w.heap.size + 1 + 1]? = some (.cells #[.string ⟨x2.nm.toArray⟩, .string ⟨x2.tb.toArray⟩, .slice a2_2 x2.cs.length c2_2, .bool x2.ini, .bool x2.ins, .bool x2.del, .bool x2.mod, .slice a2_7 x2.wh.length c2_7] 31) ∧ Rd W (· < wc.heap.size) (dRowS R0) (.slice ra R0.length rc) ∧ W.heap[wx0.heap.size]? = some (.cells #[.slice (some ⟨p0_0, 0, none⟩) x0.tables.length x0.tables.length] 40) ∧ Own W (dTableS x0.tables) (fun c => u0 ≤ c ∧ c < wx0.heap.size) (.slice (some ⟨p0_0, 0, none⟩) x0.tables.length x0.tables.length) ∧ W.heap[wx1.heap.size]? = some (.cells #[.slice (some ⟨p1_0, 0, none⟩) x1.tables.length x1.tables.length, .int .i64 x1.next] 44) ∧ Own W (dRowSS x1.tables) (fun c => u1 ≤ c ∧ c < wx1.heap.size) (.slice (some ⟨p1_0, 0, none⟩) x1.tables.length x1.tables.length) ∧ W.heap[wx2.heap.size]? = some (.cells #[.string ⟨x2.nm.toArray⟩, .string ⟨x2.tb.toArray⟩, .slice (some ⟨p2_2, 0, none⟩) x2.cs.length x2.cs.length, .bool x2.ini, .bool x2.ins, .bool x2.del, .bool x2.mod, .slice (some ⟨p2_7, 0, none⟩) x2.wh.length x2.wh.length] 48) ∧ Own W (dStringS x2.cs) (Y2 2) (.slice (some ⟨p2_2, 0, none⟩) x2.cs.length x2.cs.length) ∧ Own W (dCondS x2.wh) (Y2 7) (.slice (some ⟨p2_7, 0, none⟩) x2.wh.length x2.wh.length) ∧ Own W (dRowS R0) (fun c => ug ≤ c ∧ c < wg.heap.size) (.slice ga R0.length gc)) → (Below w.heap.size w W ∧ W.heap[w.heap.size]? = some (.cells #[.slice a0_0 x0.tables.length c0_0] 24) ∧ W.heap[w.heap.size + 1]? = some (.cells #[.slice a1_0 x1.tables.length c1_0, .int .i64 x1.next] 27) ∧ W.heap[w.heap.size + 1 + 1]? = some (.cells #[.string ⟨x2.nm.toArray⟩, .string ⟨x2.tb.toArray⟩, .slice a2_2 x2.cs.length c2_2, .bool x2.ini, .bool x2.ins, .bool x2.del, .bool x2.mod, .slice a2_7 x2.wh.length c2_7] 31))) := fun W h => ⟨h.1, h.2.1, h.2.2.1, h.2.2.2.1⟩
 have hx := N1.out
 clear N1
 refine wp_region_held_drew (S := (fun W => W.cell? ⟨w.heap.size, 0, none⟩ = some (.slice a0_0 x0.tables.length c0_0) ∧ W.cell? ⟨wx0.heap.size, 0, none⟩ = some (.slice (some ⟨p0_0, 0, none⟩) x0.tables.length x0.tables.length))) (by kernel_rfl) ?_ (fun hHeld => ?_)
 ·
  (first | exact CE0.out _ hx | exact CE0.out _ (SGL.out _ _ hx (Below.refl _ _).drew))
 refine tkB (i := 0) ?_
 refine tkB (i := 1) ?_
 refine tkR (i := 2) (fun K hK => ?_)
 go_simp
 (go_at_call 8; refine (TO0.out _ (by first | exact XA0.out _ hx | exact XA0.out _ (SGL.out _ _ hx (Below.refl _ _).drew))).mono ?_; rintro e we0 ⟨s0_0, rfl, ho, hB, _⟩; have h2 : Below w.heap.size w we0 ∧ we0.heap[w.heap.size]? = some (.cells #[.slice a0_0 x0.tables.length c0_0] 24) ∧ we0.heap[w.heap.size + 1]? = some (.cells #[.slice a1_0 x1.tables.length c1_0, .int .i64 x1.next] 27) ∧ we0.heap[w.heap.size + 1 + 1]? = some (.cells #[.string ⟨x2.nm.toArray⟩, .string ⟨x2.tb.toArray⟩, .slice a2_2 x2.cs.length c2_2, .bool x2.ini, .bool x2.ins, .bool x2.del, .bool x2.mod, .slice a2_7 x2.wh.length c2_7] 31) ∧ Rd we0 (· < wc.heap.size) (dRowS R0) (.slice ra R0.length rc) ∧ we0.heap[wx0.heap.size]? = some (.cells #[.slice (some ⟨p0_0, 0, none⟩) x0.tables.length x0.tables.length] 40) ∧ Own we0 (dTableS x0.tables) (fun c => u0 ≤ c ∧ c < wx0.heap.size) (.slice (some ⟨p0_0, 0, none⟩) x0.tables.length x0.tables.length) ∧ we0.heap[wx1.heap.size]? = some (.cells #[.slice (some ⟨p1_0, 0, none⟩) x1.tables.length x1.tables.length, .int .i64 x1.next] 44) ∧ Own we0 (dRowSS x1.tables) (fun c => u1 ≤ c ∧ c < wx1.heap.size) (.slice (some ⟨p1_0, 0, none⟩) x1.tables.length x1.tables.length) ∧ we0.heap[wx2.heap.size]? = some (.cells #[.string ⟨x2.nm.toArray⟩, .string ⟨x2.tb.toArray⟩, .slice (some ⟨p2_2, 0, none⟩) x2.cs.length x2.cs.length, .bool x2.ini, .bool x2.ins, .bool x2.del, .bool x2.mod, .slice (some ⟨p2_7, 0, none⟩) x2.wh.length x2.wh.length] 48) ∧ Own we0 (dStringS x2.cs) (Y2 2) (.slice (some ⟨p2_2, 0, none⟩) x2.cs.length x2.cs.length) ∧ Own we0 (dCondS x2.wh) (Y2 7) (.slice (some ⟨p2_7, 0, none⟩) x2.wh.length x2.wh.length) ∧ Own we0 (dRowS R0) (fun c => ug ≤ c ∧ c < wg.heap.size) (.slice ga R0.length gc) := (by first | exact SGL.out _ _ hx hB | exact SGL.out _ _ (SGL.out _ _ hx (Below.refl _ _).drew) hB); clear hx; have hx := h2; clear h2; have RE0_0 : Hid (Rd _ (fun _ => True) (dTableS x0.tables) (.slice (some ⟨s0_0, 0, none⟩) x0.tables.length x0.tables.length)) := (Owns.one ho (j := 0) (by omega)).rd'.any; clear hB ho)
 refine hK.out _ _ ?_ (fun hHeld => ?_)
 ·
  (first | exact CE0.out _ hx | exact CE0.out _ (SGL.out _ _ hx (Below.refl _ _).drew))
 clear hK K
 try simp only [Act.put, tkS]
 refine tkR (i := 3) (fun K hK => ?_)
 go_simp
 (go_at_call 13; refine (EQ0.out _ _ _ _ _ (by first | exact Rd.any (Own.rd' (hx.2.2.2.2.2.2.1)) | exact Rd.later (Rd.any (Own.rd' (hx.2.2.2.2.2.2.1))) (Below.refl _ _).drew) (by first | exact RE0_0.out | exact Rd.later RE0_0.out (Below.refl _ _).drew)).mono ?_; rintro e wf0 ⟨rfl, hB⟩; have h2 : Below w.heap.size w wf0 ∧ wf0.heap[w.heap.size]? = some (.cells #[.slice a0_0 x0.tables.length c0_0] 24) ∧ wf0.heap[w.heap.size + 1]? = some (.cells #[.slice a1_0 x1.tables.length c1_0, .int .i64 x1.next] 27) ∧ wf0.heap[w.heap.size + 1 + 1]? = some (.cells #[.string ⟨x2.nm.toArray⟩, .string ⟨x2.tb.toArray⟩, .slice a2_2 x2.cs.length c2_2, .bool x2.ini, .bool x2.ins, .bool x2.del, .bool x2.mod, .slice a2_7 x2.wh.length c2_7] 31) ∧ Rd wf0 (· < wc.heap.size) (dRowS R0) (.slice ra R0.length rc) ∧ wf0.heap[wx0.heap.size]? = some (.cells #[.slice (some ⟨p0_0, 0, none⟩) x0.tables.length x0.tables.length] 40) ∧ Own wf0 (dTableS x0.tables) (fun c => u0 ≤ c ∧ c < wx0.heap.size) (.slice (some ⟨p0_0, 0, none⟩) x0.tables.length x0.tables.length) ∧ wf0.heap[wx1.heap.size]? = some (.cells #[.slice (some ⟨p1_0, 0, none⟩) x1.tables.length x1.tables.length, .int .i64 x1.next] 44) ∧ Own wf0 (dRowSS x1.tables) (fun c => u1 ≤ c ∧ c < wx1.heap.size) (.slice (some ⟨p1_0, 0, none⟩) x1.tables.length x1.tables.length) ∧ wf0.heap[wx2.heap.size]? = some (.cells #[.string ⟨x2.nm.toArray⟩, .string ⟨x2.tb.toArray⟩, .slice (some ⟨p2_2, 0, none⟩) x2.cs.length x2.cs.length, .bool x2.ini, .bool x2.ins, .bool x2.del, .bool x2.mod, .slice (some ⟨p2_7, 0, none⟩) x2.wh.length x2.wh.length] 48) ∧ Own wf0 (dStringS x2.cs) (Y2 2) (.slice (some ⟨p2_2, 0, none⟩) x2.cs.length x2.cs.length) ∧ Own wf0 (dCondS x2.wh) (Y2 7) (.slice (some ⟨p2_7, 0, none⟩) x2.wh.length x2.wh.length) ∧ Own wf0 (dRowS R0) (fun c => ug ≤ c ∧ c < wg.heap.size) (.slice ga R0.length gc) := (by first | exact SGL.out _ _ hx hB | exact SGL.out _ _ (SGL.out _ _ hx (Below.refl _ _).drew) hB); clear hx hB; have hx := h2; clear h2)
 refine hK.out _ _ ?_ (fun hHeld => ?_)
 ·
  (first | exact CE0.out _ hx | exact CE0.out _ (SGL.out _ _ hx (Below.refl _ _).drew))
 clear hK K
 try simp only [Act.put, tkS]
 refine tkB (i := 4) ?_
 refine wpAnyH_done (by kernel_rfl) ?_ _
 have N2 := Lib.hid hx
 clear f_arg0_0 f_arg1_0 f_arg1_1 f_arg2_0 f_arg2_1 f_arg2_2 f_arg2_3 f_arg2_4 f_arg2_5 f_arg2_6 f_arg2_7 f_x0_0 f_x1_0 f_x1_1 f_x2_0 f_x2_1 f_x2_2 f_x2_3 f_x2_4 f_x2_5 f_x2_6 f_x2_7
 clear hx RE0_0
 have f_arg0_0 := cell_at (o := 0) N2.out.2.1 rfl
 have f_arg1_0 := cell_at (o := 0) N2.out.2.2.1 rfl
 have f_arg1_1 := cell_at (o := 1) N2.out.2.2.1 rfl
 have f_arg2_0 := cell_at (o := 0) N2.out.2.2.2.1 rfl
 have f_arg2_1 := cell_at (o := 1) N2.out.2.2.2.1 rfl
 have f_arg2_2 := cell_at (o := 2) N2.out.2.2.2.1 rfl
 have f_arg2_3 := cell_at (o := 3) N2.out.2.2.2.1 rfl
 have f_arg2_4 := cell_at (o := 4) N2.out.2.2.2.1 rfl
 have f_arg2_5 := cell_at (o := 5) N2.out.2.2.2.1 rfl
 have f_arg2_6 := cell_at (o := 6) N2.out.2.2.2.1 rfl
 have f_arg2_7 := cell_at (o := 7) N2.out.2.2.2.1 rfl
 have f_x0_0 := cell_at (o := 0) N2.out.2.2.2.2.2.1 rfl
 have f_x1_0 := cell_at (o := 0) N2.out.2.2.2.2.2.2.2.1 rfl
 have f_x1_1 := cell_at (o := 1) N2.out.2.2.2.2.2.2.2.1 rfl
 have f_x2_0 := cell_at (o := 0) N2.out.2.2.2.2.2.2.2.2.2.1 rfl
 have f_x2_1 := cell_at (o := 1) N2.out.2.2.2.2.2.2.2.2.2.1 rfl
 have f_x2_2 := cell_at (o := 2) N2.out.2.2.2.2.2.2.2.2.2.1 rfl
 have f_x2_3 := cell_at (o := 3) N2.out.2.2.2.2.2.2.2.2.2.1 rfl
 have f_x2_4 := cell_at (o := 4) N2.out.2.2.2.2.2.2.2.2.2.1 rfl
 have f_x2_5 := cell_at (o := 5) N2.out.2.2.2.2.2.2.2.2.2.1 rfl
 have f_x2_6 := cell_at (o := 6) N2.out.2.2.2.2.2.2.2.2.2.1 rfl
 have f_x2_7 := cell_at (o := 7) N2.out.2.2.2.2.2.2.2.2.2.1 rfl
 go_wp2_with fail
 have CE1 : Hid (∀ W, (Below w.heap.size w W ∧ W.heap[w.heap.size]? = some (.cells #[.slice a0_0 x0.tables.length c0_0] 24) ∧ W.heap[w.heap.size + 1]? = some (.cells #[.slice a1_0 x1.tables.length c1_0, .int .i64 x1.next] 27) ∧ W.heap[w.heap.size + 1 + 1]? = some (.cells #[.string ⟨x2.nm.toArray⟩, .string ⟨x2.tb.toArray⟩, .slice a2_2 x2.cs.length c2_2, .bool x2.ini, .bool x2.ins, .bool x2.del, .bool x2.mod, .slice a2_7 x2.wh.length c2_7] 31) ∧ Rd W (· < wc.heap.size) (dRowS R0) (.slice ra R0.length rc) ∧ W.heap[wx0.heap.size]? = some (.cells #[.slice (some ⟨p0_0, 0, none⟩) x0.tables.length x0.tables.length] 40) ∧ Own W (dTableS x0.tables) (fun c => u0 ≤ c ∧ c < wx0.heap.size) (.slice (some ⟨p0_0, 0, none⟩) x0.tables.length x0.tables.length) ∧ W.heap[wx1.heap.size]? = some (.cells #[.slice (some ⟨p1_0, 0, none⟩) x1.tables.length x1.tables.length, .int .i64 x1.next] 44) ∧ Own W (dRowSS x1.tables) (fun c => u1 ≤ c ∧ c < wx1.heap.size) (.slice (some ⟨p1_0, 0, none⟩) x1.tables.length x1.tables.length) ∧ W.heap[wx2.heap.size]? = some (.cells #[.string ⟨x2.nm.toArray⟩, .string ⟨x2.tb.toArray⟩, .slice (some ⟨p2_2, 0, none⟩) x2.cs.length x2.cs.length, .bool x2.ini, .bool x2.ins, .bool x2.del, .bool x2.mod, .slice (some ⟨p2_7, 0, none⟩) x2.wh.length x2.wh.length] 48) ∧ Own W (dStringS x2.cs) (Y2 2) (.slice (some ⟨p2_2, 0, none⟩) x2.cs.length x2.cs.length) ∧ Own W (dCondS x2.wh) (Y2 7) (.slice (some ⟨p2_7, 0, none⟩) x2.wh.length x2.wh.length) ∧ Own W (dRowS R0) (fun c => ug ≤ c ∧ c < wg.heap.size) (.slice ga R0.length gc)) → (W.cell? ⟨w.heap.size + 1, 0, none⟩ = some (.slice a1_0 x1.tables.length c1_0) ∧ W.cell? ⟨w.heap.size + 1, 1, none⟩ = some (.int .i64 x1.next) ∧ W.cell? ⟨wx1.heap.size, 0, none⟩ = some (.slice (some ⟨p1_0, 0, none⟩) x1.tables.length x1.tables.length) ∧ W.cell? ⟨wx1.heap.size, 1, none⟩ = some (.int .i64 x1.next))) := fun W h => ⟨cell_at (o := 0) h.2.2.1 rfl, cell_at (o := 1) h.2.2.1 rfl, cell_at (o := 0) h.2.2.2.2.2.2.2.1 rfl, cell_at (o := 1) h.2.2.2.2.2.2.2.1 rfl⟩
 have XA1 : Hid (∀ W, (Below w.heap.size w W ∧ W.heap[w.heap.size]? = some (.cells #[.slice a0_0 x0.tables.length c0_0] 24) ∧ W.heap[w.heap.size + 1]? = some (.cells #[.slice a1_0 x1.tables.length c1_0, .int .i64 x1.next] 27) ∧ W.heap[w.heap.size + 1 + 1]? = some (.cells #[.string ⟨x2.nm.toArray⟩, .string ⟨x2.tb.toArray⟩, .slice a2_2 x2.cs.length c2_2, .bool x2.ini, .bool x2.ins, .bool x2.del, .bool x2.mod, .slice a2_7 x2.wh.length c2_7] 31) ∧ Rd W (· < wc.heap.size) (dRowS R0) (.slice ra R0.length rc) ∧ W.heap[wx0.heap.size]? = some (.cells #[.slice (some ⟨p0_0, 0, none⟩) x0.tables.length x0.tables.length] 40) ∧ Own W (dTableS x0.tables) (fun c => u0 ≤ c ∧ c < wx0.heap.size) (.slice (some ⟨p0_0, 0, none⟩) x0.tables.length x0.tables.length) ∧ W.heap[wx1.heap.size]? = some (.cells #[.slice (some ⟨p1_0, 0, none⟩) x1.tables.length x1.tables.length, .int .i64 x1.next] 44) ∧ Own W (dRowSS x1.tables) (fun c => u1 ≤ c ∧ c < wx1.heap.size) (.slice (some ⟨p1_0, 0, none⟩) x1.tables.length x1.tables.length) ∧ W.heap[wx2.heap.size]? = some (.cells #[.string ⟨x2.nm.toArray⟩, .string ⟨x2.tb.toArray⟩, .slice (some ⟨p2_2, 0, none⟩) x2.cs.length x2.cs.length, .bool x2.ini, .bool x2.ins, .bool x2.del, .bool x2.mod, .slice (some ⟨p2_7, 0, none⟩) x2.wh.length x2.wh.length] 48) ∧ Own W (dStringS x2.cs) (Y2 2) (.slice (some ⟨p2_2, 0, none⟩) x2.cs.length x2.cs.length) ∧ Own W (dCondS x2.wh) (Y2 7) (.slice (some ⟨p2_7, 0, none⟩) x2.wh.length x2.wh.length) ∧ Own W (dRowS R0) (fun c => ug ≤ c ∧ c < wg.heap.size) (.slice ga R0.length gc)) → (Below w.heap.size w W ∧ W.heap[w.heap.size]? = some (.cells #[.slice a0_0 x0.tables.length c0_0] 24) ∧ W.heap[w.heap.size + 1]? = some (.cells #[.slice a1_0 x1.tables.length c1_0, .int .i64 x1.next] 27) ∧ W.heap[w.heap.size + 1 + 1]? = some (.cells #[.string ⟨x2.nm.toArray⟩, .string ⟨x2.tb.toArray⟩, .slice a2_2 x2.cs.length c2_2, .bool x2.ini, .bool x2.ins, .bool x2.del, .bool x2.mod, .slice a2_7 x2.wh.length c2_7] 31))) := fun W h => ⟨h.1, h.2.1, h.2.2.1, h.2.2.2.1⟩
 have hx := N2.out
 clear N2
 refine wp_region_held_drew (S := (fun W => W.cell? ⟨w.heap.size + 1, 0, none⟩ = some (.slice a1_0 x1.tables.length c1_0) ∧ W.cell? ⟨w.heap.size + 1, 1, none⟩ = some (.int .i64 x1.next) ∧ W.cell? ⟨wx1.heap.size, 0, none⟩ = some (.slice (some ⟨p1_0, 0, none⟩) x1.tables.length x1.tables.length) ∧ W.cell? ⟨wx1.heap.size, 1, none⟩ = some (.int .i64 x1.next))) (by kernel_rfl) ?_ (fun hHeld => ?_)
 ·
  (first | exact CE1.out _ hx | exact CE1.out _ (SGL.out _ _ hx (Below.refl _ _).drew))
 refine tkB (i := 0) ?_
 refine tkB (i := 1) ?_
 refine tkR (i := 2) (fun K hK => ?_)
 go_simp
 (go_at_call 9; refine (TO1.out _ (by first | exact XA1.out _ hx | exact XA1.out _ (SGL.out _ _ hx (Below.refl _ _).drew))).mono ?_; rintro e we1 ⟨s1_0, rfl, ho, hB, _⟩; have h2 : Below w.heap.size w we1 ∧ we1.heap[w.heap.size]? = some (.cells #[.slice a0_0 x0.tables.length c0_0] 24) ∧ we1.heap[w.heap.size + 1]? = some (.cells #[.slice a1_0 x1.tables.length c1_0, .int .i64 x1.next] 27) ∧ we1.heap[w.heap.size + 1 + 1]? = some (.cells #[.string ⟨x2.nm.toArray⟩, .string ⟨x2.tb.toArray⟩, .slice a2_2 x2.cs.length c2_2, .bool x2.ini, .bool x2.ins, .bool x2.del, .bool x2.mod, .slice a2_7 x2.wh.length c2_7] 31) ∧ Rd we1 (· < wc.heap.size) (dRowS R0) (.slice ra R0.length rc) ∧ we1.heap[wx0.heap.size]? = some (.cells #[.slice (some ⟨p0_0, 0, none⟩) x0.tables.length x0.tables.length] 40) ∧ Own we1 (dTableS x0.tables) (fun c => u0 ≤ c ∧ c < wx0.heap.size) (.slice (some ⟨p0_0, 0, none⟩) x0.tables.length x0.tables.length) ∧ we1.heap[wx1.heap.size]? = some (.cells #[.slice (some ⟨p1_0, 0, none⟩) x1.tables.length x1.tables.length, .int .i64 x1.next] 44) ∧ Own we1 (dRowSS x1.tables) (fun c => u1 ≤ c ∧ c < wx1.heap.size) (.slice (some ⟨p1_0, 0, none⟩) x1.tables.length x1.tables.length) ∧ we1.heap[wx2.heap.size]? = some (.cells #[.string ⟨x2.nm.toArray⟩, .string ⟨x2.tb.toArray⟩, .slice (some ⟨p2_2, 0, none⟩) x2.cs.length x2.cs.length, .bool x2.ini, .bool x2.ins, .bool x2.del, .bool x2.mod, .slice (some ⟨p2_7, 0, none⟩) x2.wh.length x2.wh.length] 48) ∧ Own we1 (dStringS x2.cs) (Y2 2) (.slice (some ⟨p2_2, 0, none⟩) x2.cs.length x2.cs.length) ∧ Own we1 (dCondS x2.wh) (Y2 7) (.slice (some ⟨p2_7, 0, none⟩) x2.wh.length x2.wh.length) ∧ Own we1 (dRowS R0) (fun c => ug ≤ c ∧ c < wg.heap.size) (.slice ga R0.length gc) := (by first | exact SGL.out _ _ hx hB | exact SGL.out _ _ (SGL.out _ _ hx (Below.refl _ _).drew) hB); clear hx; have hx := h2; clear h2; have RE1_0 : Hid (Rd _ (fun _ => True) (dRowSS x1.tables) (.slice (some ⟨s1_0, 0, none⟩) x1.tables.length x1.tables.length)) := (Owns.one ho (j := 0) (by omega)).rd'.any; clear hB ho)
 refine hK.out _ _ ?_ (fun hHeld => ?_)
 ·
  (first | exact CE1.out _ hx | exact CE1.out _ (SGL.out _ _ hx (Below.refl _ _).drew))
 clear hK K
 try simp only [Act.put, tkS]
 refine tkR (i := 3) (fun K hK => ?_)
 go_simp
 (go_at_call 14; refine (EQ1.out _ _ _ _ _ (by first | exact Rd.any (Own.rd' (hx.2.2.2.2.2.2.2.2.1)) | exact Rd.later (Rd.any (Own.rd' (hx.2.2.2.2.2.2.2.2.1))) (Below.refl _ _).drew) (by first | exact RE1_0.out | exact Rd.later RE1_0.out (Below.refl _ _).drew)).mono ?_; rintro e wf1 ⟨rfl, hB⟩; have h2 : Below w.heap.size w wf1 ∧ wf1.heap[w.heap.size]? = some (.cells #[.slice a0_0 x0.tables.length c0_0] 24) ∧ wf1.heap[w.heap.size + 1]? = some (.cells #[.slice a1_0 x1.tables.length c1_0, .int .i64 x1.next] 27) ∧ wf1.heap[w.heap.size + 1 + 1]? = some (.cells #[.string ⟨x2.nm.toArray⟩, .string ⟨x2.tb.toArray⟩, .slice a2_2 x2.cs.length c2_2, .bool x2.ini, .bool x2.ins, .bool x2.del, .bool x2.mod, .slice a2_7 x2.wh.length c2_7] 31) ∧ Rd wf1 (· < wc.heap.size) (dRowS R0) (.slice ra R0.length rc) ∧ wf1.heap[wx0.heap.size]? = some (.cells #[.slice (some ⟨p0_0, 0, none⟩) x0.tables.length x0.tables.length] 40) ∧ Own wf1 (dTableS x0.tables) (fun c => u0 ≤ c ∧ c < wx0.heap.size) (.slice (some ⟨p0_0, 0, none⟩) x0.tables.length x0.tables.length) ∧ wf1.heap[wx1.heap.size]? = some (.cells #[.slice (some ⟨p1_0, 0, none⟩) x1.tables.length x1.tables.length, .int .i64 x1.next] 44) ∧ Own wf1 (dRowSS x1.tables) (fun c => u1 ≤ c ∧ c < wx1.heap.size) (.slice (some ⟨p1_0, 0, none⟩) x1.tables.length x1.tables.length) ∧ wf1.heap[wx2.heap.size]? = some (.cells #[.string ⟨x2.nm.toArray⟩, .string ⟨x2.tb.toArray⟩, .slice (some ⟨p2_2, 0, none⟩) x2.cs.length x2.cs.length, .bool x2.ini, .bool x2.ins, .bool x2.del, .bool x2.mod, .slice (some ⟨p2_7, 0, none⟩) x2.wh.length x2.wh.length] 48) ∧ Own wf1 (dStringS x2.cs) (Y2 2) (.slice (some ⟨p2_2, 0, none⟩) x2.cs.length x2.cs.length) ∧ Own wf1 (dCondS x2.wh) (Y2 7) (.slice (some ⟨p2_7, 0, none⟩) x2.wh.length x2.wh.length) ∧ Own wf1 (dRowS R0) (fun c => ug ≤ c ∧ c < wg.heap.size) (.slice ga R0.length gc) := (by first | exact SGL.out _ _ hx hB | exact SGL.out _ _ (SGL.out _ _ hx (Below.refl _ _).drew) hB); clear hx hB; have hx := h2; clear h2)
 refine hK.out _ _ ?_ (fun hHeld => ?_)
 ·
  (first | exact CE1.out _ hx | exact CE1.out _ (SGL.out _ _ hx (Below.refl _ _).drew))
 clear hK K
 try simp only [Act.put, tkS]
 refine tkB (i := 4) ?_
 refine wpAnyH_done (by kernel_rfl) ?_ _
 have N3 := Lib.hid hx
 clear f_arg0_0 f_arg1_0 f_arg1_1 f_arg2_0 f_arg2_1 f_arg2_2 f_arg2_3 f_arg2_4 f_arg2_5 f_arg2_6 f_arg2_7 f_x0_0 f_x1_0 f_x1_1 f_x2_0 f_x2_1 f_x2_2 f_x2_3 f_x2_4 f_x2_5 f_x2_6 f_x2_7
 clear hx RE1_0
 have f_arg0_0 := cell_at (o := 0) N3.out.2.1 rfl
 have f_arg1_0 := cell_at (o := 0) N3.out.2.2.1 rfl
 have f_arg1_1 := cell_at (o := 1) N3.out.2.2.1 rfl
 have f_arg2_0 := cell_at (o := 0) N3.out.2.2.2.1 rfl
 have f_arg2_1 := cell_at (o := 1) N3.out.2.2.2.1 rfl
 have f_arg2_2 := cell_at (o := 2) N3.out.2.2.2.1 rfl
 have f_arg2_3 := cell_at (o := 3) N3.out.2.2.2.1 rfl
 have f_arg2_4 := cell_at (o := 4) N3.out.2.2.2.1 rfl
 have f_arg2_5 := cell_at (o := 5) N3.out.2.2.2.1 rfl
 have f_arg2_6 := cell_at (o := 6) N3.out.2.2.2.1 rfl
 have f_arg2_7 := cell_at (o := 7) N3.out.2.2.2.1 rfl
 have f_x0_0 := cell_at (o := 0) N3.out.2.2.2.2.2.1 rfl
 have f_x1_0 := cell_at (o := 0) N3.out.2.2.2.2.2.2.2.1 rfl
 have f_x1_1 := cell_at (o := 1) N3.out.2.2.2.2.2.2.2.1 rfl
 have f_x2_0 := cell_at (o := 0) N3.out.2.2.2.2.2.2.2.2.2.1 rfl
 have f_x2_1 := cell_at (o := 1) N3.out.2.2.2.2.2.2.2.2.2.1 rfl
 have f_x2_2 := cell_at (o := 2) N3.out.2.2.2.2.2.2.2.2.2.1 rfl
 have f_x2_3 := cell_at (o := 3) N3.out.2.2.2.2.2.2.2.2.2.1 rfl
 have f_x2_4 := cell_at (o := 4) N3.out.2.2.2.2.2.2.2.2.2.1 rfl
 have f_x2_5 := cell_at (o := 5) N3.out.2.2.2.2.2.2.2.2.2.1 rfl
 have f_x2_6 := cell_at (o := 6) N3.out.2.2.2.2.2.2.2.2.2.1 rfl
 have f_x2_7 := cell_at (o := 7) N3.out.2.2.2.2.2.2.2.2.2.1 rfl
 go_wp2_with fail
 have CE2 : Hid (∀ W, (Below w.heap.size w W ∧ W.heap[w.heap.size]? = some (.cells #[.slice a0_0 x0.tables.length c0_0] 24) ∧ W.heap[w.heap.size + 1]? = some (.cells #[.slice a1_0 x1.tables.length c1_0, .int .i64 x1.next] 27) ∧ W.heap[w.heap.size + 1 + 1]? = some (.cells #[.string ⟨x2.nm.toArray⟩, .string ⟨x2.tb.toArray⟩, .slice a2_2 x2.cs.length c2_2, .bool x2.ini, .bool x2.ins, .bool x2.del, .bool x2.mod, .slice a2_7 x2.wh.length c2_7] 31) ∧ Rd W (· < wc.heap.size) (dRowS R0) (.slice ra R0.length rc) ∧ W.heap[wx0.heap.size]? = some (.cells #[.slice (some ⟨p0_0, 0, none⟩) x0.tables.length x0.tables.length] 40) ∧ Own W (dTableS x0.tables) (fun c => u0 ≤ c ∧ c < wx0.heap.size) (.slice (some ⟨p0_0, 0, none⟩) x0.tables.length x0.tables.length) ∧ W.heap[wx1.heap.size]? = some (.cells #[.slice (some ⟨p1_0, 0, none⟩) x1.tables.length x1.tables.length, .int .i64 x1.next] 44) ∧ Own W (dRowSS x1.tables) (fun c => u1 ≤ c ∧ c < wx1.heap.size) (.slice (some ⟨p1_0, 0, none⟩) x1.tables.length x1.tables.length) ∧ W.heap[wx2.heap.size]? = some (.cells #[.string ⟨x2.nm.toArray⟩, .string ⟨x2.tb.toArray⟩, .slice (some ⟨p2_2, 0, none⟩) x2.cs.length x2.cs.length, .bool x2.ini, .bool x2.ins, .bool x2.del, .bool x2.mod, .slice (some ⟨p2_7, 0, none⟩) x2.wh.length x2.wh.length] 48) ∧ Own W (dStringS x2.cs) (Y2 2) (.slice (some ⟨p2_2, 0, none⟩) x2.cs.length x2.cs.length) ∧ Own W (dCondS x2.wh) (Y2 7) (.slice (some ⟨p2_7, 0, none⟩) x2.wh.length x2.wh.length) ∧ Own W (dRowS R0) (fun c => ug ≤ c ∧ c < wg.heap.size) (.slice ga R0.length gc)) → (W.cell? ⟨w.heap.size + 1 + 1, 0, none⟩ = some (.string ⟨x2.nm.toArray⟩) ∧ W.cell? ⟨w.heap.size + 1 + 1, 1, none⟩ = some (.string ⟨x2.tb.toArray⟩) ∧ W.cell? ⟨w.heap.size + 1 + 1, 2, none⟩ = some (.slice a2_2 x2.cs.length c2_2) ∧ W.cell? ⟨w.heap.size + 1 + 1, 3, none⟩ = some (.bool x2.ini) ∧ W.cell? ⟨w.heap.size + 1 + 1, 4, none⟩ = some (.bool x2.ins) ∧ W.cell? ⟨w.heap.size + 1 + 1, 5, none⟩ = some (.bool x2.del) ∧ W.cell? ⟨w.heap.size + 1 + 1, 6, none⟩ = some (.bool x2.mod) ∧ W.cell? ⟨w.heap.size + 1 + 1, 7, none⟩ = some (.slice a2_7 x2.wh.length c2_7) ∧ W.cell? ⟨wx2.heap.size, 0, none⟩ = some (.string ⟨x2.nm.toArray⟩) ∧ W.cell? ⟨wx2.heap.size, 1, none⟩ = some (.string ⟨x2.tb.toArray⟩) ∧ W.cell? ⟨wx2.heap.size, 2, none⟩ = some (.slice (some ⟨p2_2, 0, none⟩) x2.cs.length x2.cs.length) ∧ W.cell? ⟨wx2.heap.size, 3, none⟩ = some (.bool x2.ini) ∧ W.cell? ⟨wx2.heap.size, 4, none⟩ = some (.bool x2.ins) ∧ W.cell? ⟨wx2.heap.size, 5, none⟩ = some (.bool x2.del) ∧ W.cell? ⟨wx2.heap.size, 6, none⟩ = some (.bool x2.mod) ∧ W.cell? ⟨wx2.heap.size, 7, none⟩ = some (.slice (some ⟨p2_7, 0, none⟩) x2.wh.length x2.wh.length))) := fun W h => ⟨cell_at (o := 0) h.2.2.2.1 rfl, cell_at (o := 1) h.2.2.2.1 rfl, cell_at (o := 2) h.2.2.2.1 rfl, cell_at (o := 3) h.2.2.2.1 rfl, cell_at (o := 4) h.2.2.2.1 rfl, cell_at (o := 5) h.2.2.2.1 rfl, cell_at (o := 6) h.2.2.2.1 rfl, cell_at (o := 7) h.2.2.2.1 rfl, cell_at (o := 0) h.2.2.2.2.2.2.2.2.2.1 rfl, cell_at (o := 1) h.2.2.2.2.2.2.2.2.2.1 rfl, cell_at (o := 2) h.2.2.2.2.2.2.2.2.2.1 rfl, cell_at (o := 3) h.2.2.2.2.2.2.2.2.2.1 rfl, cell_at (o := 4) h.2.2.2.2.2.2.2.2.2.1 rfl, cell_at (o := 5) h.2.2.2.2.2.2.2.2.2.1 rfl, cell_at (o := 6) h.2.2.2.2.2.2.2.2.2.1 rfl, cell_at (o := 7) h.2.2.2.2.2.2.2.2.2.1 rfl⟩
 have XA2 : Hid (∀ W, (Below w.heap.size w W ∧ W.heap[w.heap.size]? = some (.cells #[.slice a0_0 x0.tables.length c0_0] 24) ∧ W.heap[w.heap.size + 1]? = some (.cells #[.slice a1_0 x1.tables.length c1_0, .int .i64 x1.next] 27) ∧ W.heap[w.heap.size + 1 + 1]? = some (.cells #[.string ⟨x2.nm.toArray⟩, .string ⟨x2.tb.toArray⟩, .slice a2_2 x2.cs.length c2_2, .bool x2.ini, .bool x2.ins, .bool x2.del, .bool x2.mod, .slice a2_7 x2.wh.length c2_7] 31) ∧ Rd W (· < wc.heap.size) (dRowS R0) (.slice ra R0.length rc) ∧ W.heap[wx0.heap.size]? = some (.cells #[.slice (some ⟨p0_0, 0, none⟩) x0.tables.length x0.tables.length] 40) ∧ Own W (dTableS x0.tables) (fun c => u0 ≤ c ∧ c < wx0.heap.size) (.slice (some ⟨p0_0, 0, none⟩) x0.tables.length x0.tables.length) ∧ W.heap[wx1.heap.size]? = some (.cells #[.slice (some ⟨p1_0, 0, none⟩) x1.tables.length x1.tables.length, .int .i64 x1.next] 44) ∧ Own W (dRowSS x1.tables) (fun c => u1 ≤ c ∧ c < wx1.heap.size) (.slice (some ⟨p1_0, 0, none⟩) x1.tables.length x1.tables.length) ∧ W.heap[wx2.heap.size]? = some (.cells #[.string ⟨x2.nm.toArray⟩, .string ⟨x2.tb.toArray⟩, .slice (some ⟨p2_2, 0, none⟩) x2.cs.length x2.cs.length, .bool x2.ini, .bool x2.ins, .bool x2.del, .bool x2.mod, .slice (some ⟨p2_7, 0, none⟩) x2.wh.length x2.wh.length] 48) ∧ Own W (dStringS x2.cs) (Y2 2) (.slice (some ⟨p2_2, 0, none⟩) x2.cs.length x2.cs.length) ∧ Own W (dCondS x2.wh) (Y2 7) (.slice (some ⟨p2_7, 0, none⟩) x2.wh.length x2.wh.length) ∧ Own W (dRowS R0) (fun c => ug ≤ c ∧ c < wg.heap.size) (.slice ga R0.length gc)) → (Below w.heap.size w W ∧ W.heap[w.heap.size]? = some (.cells #[.slice a0_0 x0.tables.length c0_0] 24) ∧ W.heap[w.heap.size + 1]? = some (.cells #[.slice a1_0 x1.tables.length c1_0, .int .i64 x1.next] 27) ∧ W.heap[w.heap.size + 1 + 1]? = some (.cells #[.string ⟨x2.nm.toArray⟩, .string ⟨x2.tb.toArray⟩, .slice a2_2 x2.cs.length c2_2, .bool x2.ini, .bool x2.ins, .bool x2.del, .bool x2.mod, .slice a2_7 x2.wh.length c2_7] 31))) := fun W h => ⟨h.1, h.2.1, h.2.2.1, h.2.2.2.1⟩
 have hx := N3.out
 clear N3
 refine wp_region_held_drew (S := (fun W => W.cell? ⟨w.heap.size + 1 + 1, 0, none⟩ = some (.string ⟨x2.nm.toArray⟩) ∧ W.cell? ⟨w.heap.size + 1 + 1, 1, none⟩ = some (.string ⟨x2.tb.toArray⟩) ∧ W.cell? ⟨w.heap.size + 1 + 1, 2, none⟩ = some (.slice a2_2 x2.cs.length c2_2) ∧ W.cell? ⟨w.heap.size + 1 + 1, 3, none⟩ = some (.bool x2.ini) ∧ W.cell? ⟨w.heap.size + 1 + 1, 4, none⟩ = some (.bool x2.ins) ∧ W.cell? ⟨w.heap.size + 1 + 1, 5, none⟩ = some (.bool x2.del) ∧ W.cell? ⟨w.heap.size + 1 + 1, 6, none⟩ = some (.bool x2.mod) ∧ W.cell? ⟨w.heap.size + 1 + 1, 7, none⟩ = some (.slice a2_7 x2.wh.length c2_7) ∧ W.cell? ⟨wx2.heap.size, 0, none⟩ = some (.string ⟨x2.nm.toArray⟩) ∧ W.cell? ⟨wx2.heap.size, 1, none⟩ = some (.string ⟨x2.tb.toArray⟩) ∧ W.cell? ⟨wx2.heap.size, 2, none⟩ = some (.slice (some ⟨p2_2, 0, none⟩) x2.cs.length x2.cs.length) ∧ W.cell? ⟨wx2.heap.size, 3, none⟩ = some (.bool x2.ini) ∧ W.cell? ⟨wx2.heap.size, 4, none⟩ = some (.bool x2.ins) ∧ W.cell? ⟨wx2.heap.size, 5, none⟩ = some (.bool x2.del) ∧ W.cell? ⟨wx2.heap.size, 6, none⟩ = some (.bool x2.mod) ∧ W.cell? ⟨wx2.heap.size, 7, none⟩ = some (.slice (some ⟨p2_7, 0, none⟩) x2.wh.length x2.wh.length))) (by kernel_rfl) ?_ (fun hHeld => ?_)
 ·
  (first | exact CE2.out _ hx | exact CE2.out _ (SGL.out _ _ hx (Below.refl _ _).drew))
 refine tkB (i := 0) ?_
 refine tkB (i := 1) ?_
 refine tkR (i := 2) (fun K hK => ?_)
 go_simp
 (go_at_call 10; refine (TO2.out _ (by first | exact XA2.out _ hx | exact XA2.out _ (SGL.out _ _ hx (Below.refl _ _).drew))).mono ?_; rintro e we2 ⟨s2_2, s2_7, rfl, ho, hB, _⟩; have h2 : Below w.heap.size w we2 ∧ we2.heap[w.heap.size]? = some (.cells #[.slice a0_0 x0.tables.length c0_0] 24) ∧ we2.heap[w.heap.size + 1]? = some (.cells #[.slice a1_0 x1.tables.length c1_0, .int .i64 x1.next] 27) ∧ we2.heap[w.heap.size + 1 + 1]? = some (.cells #[.string ⟨x2.nm.toArray⟩, .string ⟨x2.tb.toArray⟩, .slice a2_2 x2.cs.length c2_2, .bool x2.ini, .bool x2.ins, .bool x2.del, .bool x2.mod, .slice a2_7 x2.wh.length c2_7] 31) ∧ Rd we2 (· < wc.heap.size) (dRowS R0) (.slice ra R0.length rc) ∧ we2.heap[wx0.heap.size]? = some (.cells #[.slice (some ⟨p0_0, 0, none⟩) x0.tables.length x0.tables.length] 40) ∧ Own we2 (dTableS x0.tables) (fun c => u0 ≤ c ∧ c < wx0.heap.size) (.slice (some ⟨p0_0, 0, none⟩) x0.tables.length x0.tables.length) ∧ we2.heap[wx1.heap.size]? = some (.cells #[.slice (some ⟨p1_0, 0, none⟩) x1.tables.length x1.tables.length, .int .i64 x1.next] 44) ∧ Own we2 (dRowSS x1.tables) (fun c => u1 ≤ c ∧ c < wx1.heap.size) (.slice (some ⟨p1_0, 0, none⟩) x1.tables.length x1.tables.length) ∧ we2.heap[wx2.heap.size]? = some (.cells #[.string ⟨x2.nm.toArray⟩, .string ⟨x2.tb.toArray⟩, .slice (some ⟨p2_2, 0, none⟩) x2.cs.length x2.cs.length, .bool x2.ini, .bool x2.ins, .bool x2.del, .bool x2.mod, .slice (some ⟨p2_7, 0, none⟩) x2.wh.length x2.wh.length] 48) ∧ Own we2 (dStringS x2.cs) (Y2 2) (.slice (some ⟨p2_2, 0, none⟩) x2.cs.length x2.cs.length) ∧ Own we2 (dCondS x2.wh) (Y2 7) (.slice (some ⟨p2_7, 0, none⟩) x2.wh.length x2.wh.length) ∧ Own we2 (dRowS R0) (fun c => ug ≤ c ∧ c < wg.heap.size) (.slice ga R0.length gc) := (by first | exact SGL.out _ _ hx hB | exact SGL.out _ _ (SGL.out _ _ hx (Below.refl _ _).drew) hB); clear hx; have hx := h2; clear h2; have RE2_2 : Hid (Rd _ (fun _ => True) (dStringS x2.cs) (.slice (some ⟨s2_2, 0, none⟩) x2.cs.length x2.cs.length)) := (Owns.one ho (j := 2) (by omega)).rd'.any; have RE2_7 : Hid (Rd _ (fun _ => True) (dCondS x2.wh) (.slice (some ⟨s2_7, 0, none⟩) x2.wh.length x2.wh.length)) := (Owns.one ho (j := 7) (by omega)).rd'.any; clear hB ho)
 refine hK.out _ _ ?_ (fun hHeld => ?_)
 ·
  (first | exact CE2.out _ hx | exact CE2.out _ (SGL.out _ _ hx (Below.refl _ _).drew))
 clear hK K
 try simp only [Act.put, tkS]
 refine tkR (i := 3) (fun K hK => ?_)
 go_simp
 (go_at_call 15; refine (EQ2.out _ _ _ _ _ _ _ _ _ (by first | exact Rd.any (Own.rd' (hx.2.2.2.2.2.2.2.2.2.2.1)) | exact Rd.later (Rd.any (Own.rd' (hx.2.2.2.2.2.2.2.2.2.2.1))) (Below.refl _ _).drew) (by first | exact Rd.any (Own.rd' (hx.2.2.2.2.2.2.2.2.2.2.2.1)) | exact Rd.later (Rd.any (Own.rd' (hx.2.2.2.2.2.2.2.2.2.2.2.1))) (Below.refl _ _).drew) (by first | exact RE2_2.out | exact Rd.later RE2_2.out (Below.refl _ _).drew) (by first | exact RE2_7.out | exact Rd.later RE2_7.out (Below.refl _ _).drew)).mono ?_; rintro e wf2 ⟨rfl, hB⟩; have h2 : Below w.heap.size w wf2 ∧ wf2.heap[w.heap.size]? = some (.cells #[.slice a0_0 x0.tables.length c0_0] 24) ∧ wf2.heap[w.heap.size + 1]? = some (.cells #[.slice a1_0 x1.tables.length c1_0, .int .i64 x1.next] 27) ∧ wf2.heap[w.heap.size + 1 + 1]? = some (.cells #[.string ⟨x2.nm.toArray⟩, .string ⟨x2.tb.toArray⟩, .slice a2_2 x2.cs.length c2_2, .bool x2.ini, .bool x2.ins, .bool x2.del, .bool x2.mod, .slice a2_7 x2.wh.length c2_7] 31) ∧ Rd wf2 (· < wc.heap.size) (dRowS R0) (.slice ra R0.length rc) ∧ wf2.heap[wx0.heap.size]? = some (.cells #[.slice (some ⟨p0_0, 0, none⟩) x0.tables.length x0.tables.length] 40) ∧ Own wf2 (dTableS x0.tables) (fun c => u0 ≤ c ∧ c < wx0.heap.size) (.slice (some ⟨p0_0, 0, none⟩) x0.tables.length x0.tables.length) ∧ wf2.heap[wx1.heap.size]? = some (.cells #[.slice (some ⟨p1_0, 0, none⟩) x1.tables.length x1.tables.length, .int .i64 x1.next] 44) ∧ Own wf2 (dRowSS x1.tables) (fun c => u1 ≤ c ∧ c < wx1.heap.size) (.slice (some ⟨p1_0, 0, none⟩) x1.tables.length x1.tables.length) ∧ wf2.heap[wx2.heap.size]? = some (.cells #[.string ⟨x2.nm.toArray⟩, .string ⟨x2.tb.toArray⟩, .slice (some ⟨p2_2, 0, none⟩) x2.cs.length x2.cs.length, .bool x2.ini, .bool x2.ins, .bool x2.del, .bool x2.mod, .slice (some ⟨p2_7, 0, none⟩) x2.wh.length x2.wh.length] 48) ∧ Own wf2 (dStringS x2.cs) (Y2 2) (.slice (some ⟨p2_2, 0, none⟩) x2.cs.length x2.cs.length) ∧ Own wf2 (dCondS x2.wh) (Y2 7) (.slice (some ⟨p2_7, 0, none⟩) x2.wh.length x2.wh.length) ∧ Own wf2 (dRowS R0) (fun c => ug ≤ c ∧ c < wg.heap.size) (.slice ga R0.length gc) := (by first | exact SGL.out _ _ hx hB | exact SGL.out _ _ (SGL.out _ _ hx (Below.refl _ _).drew) hB); clear hx hB; have hx := h2; clear h2)
 refine hK.out _ _ ?_ (fun hHeld => ?_)
 ·
  (first | exact CE2.out _ hx | exact CE2.out _ (SGL.out _ _ hx (Below.refl _ _).drew))
 clear hK K
 try simp only [Act.put, tkS]
 refine tkB (i := 4) ?_
 refine wpAnyH_done (by kernel_rfl) ?_ _
 have N4 := Lib.hid hx
 clear f_arg0_0 f_arg1_0 f_arg1_1 f_arg2_0 f_arg2_1 f_arg2_2 f_arg2_3 f_arg2_4 f_arg2_5 f_arg2_6 f_arg2_7 f_x0_0 f_x1_0 f_x1_1 f_x2_0 f_x2_1 f_x2_2 f_x2_3 f_x2_4 f_x2_5 f_x2_6 f_x2_7
 clear hx RE2_2 RE2_7
 have f_arg0_0 := cell_at (o := 0) N4.out.2.1 rfl
 have f_arg1_0 := cell_at (o := 0) N4.out.2.2.1 rfl
 have f_arg1_1 := cell_at (o := 1) N4.out.2.2.1 rfl
 have f_arg2_0 := cell_at (o := 0) N4.out.2.2.2.1 rfl
 have f_arg2_1 := cell_at (o := 1) N4.out.2.2.2.1 rfl
 have f_arg2_2 := cell_at (o := 2) N4.out.2.2.2.1 rfl
 have f_arg2_3 := cell_at (o := 3) N4.out.2.2.2.1 rfl
 have f_arg2_4 := cell_at (o := 4) N4.out.2.2.2.1 rfl
 have f_arg2_5 := cell_at (o := 5) N4.out.2.2.2.1 rfl
 have f_arg2_6 := cell_at (o := 6) N4.out.2.2.2.1 rfl
 have f_arg2_7 := cell_at (o := 7) N4.out.2.2.2.1 rfl
 have f_x0_0 := cell_at (o := 0) N4.out.2.2.2.2.2.1 rfl
 have f_x1_0 := cell_at (o := 0) N4.out.2.2.2.2.2.2.2.1 rfl
 have f_x1_1 := cell_at (o := 1) N4.out.2.2.2.2.2.2.2.1 rfl
 have f_x2_0 := cell_at (o := 0) N4.out.2.2.2.2.2.2.2.2.2.1 rfl
 have f_x2_1 := cell_at (o := 1) N4.out.2.2.2.2.2.2.2.2.2.1 rfl
 have f_x2_2 := cell_at (o := 2) N4.out.2.2.2.2.2.2.2.2.2.1 rfl
 have f_x2_3 := cell_at (o := 3) N4.out.2.2.2.2.2.2.2.2.2.1 rfl
 have f_x2_4 := cell_at (o := 4) N4.out.2.2.2.2.2.2.2.2.2.1 rfl
 have f_x2_5 := cell_at (o := 5) N4.out.2.2.2.2.2.2.2.2.2.1 rfl
 have f_x2_6 := cell_at (o := 6) N4.out.2.2.2.2.2.2.2.2.2.1 rfl
 have f_x2_7 := cell_at (o := 7) N4.out.2.2.2.2.2.2.2.2.2.1 rfl
 go_wp2_with fail
 have MB : Hid True := trivial
 have T0F : Hid (∀ W W', (Below w.heap.size w W ∧ W.heap[w.heap.size]? = some (.cells #[.slice a0_0 x0.tables.length c0_0] 24) ∧ W.heap[w.heap.size + 1]? = some (.cells #[.slice a1_0 x1.tables.length c1_0, .int .i64 x1.next] 27) ∧ W.heap[w.heap.size + 1 + 1]? = some (.cells #[.string ⟨x2.nm.toArray⟩, .string ⟨x2.tb.toArray⟩, .slice a2_2 x2.cs.length c2_2, .bool x2.ini, .bool x2.ins, .bool x2.del, .bool x2.mod, .slice a2_7 x2.wh.length c2_7] 31) ∧ Rd W (· < wc.heap.size) (dRowS R0) (.slice ra R0.length rc) ∧ W.heap[wx0.heap.size]? = some (.cells #[.slice (some ⟨p0_0, 0, none⟩) x0.tables.length x0.tables.length] 40) ∧ Own W (dTableS x0.tables) (fun c => u0 ≤ c ∧ c < wx0.heap.size) (.slice (some ⟨p0_0, 0, none⟩) x0.tables.length x0.tables.length) ∧ W.heap[wx1.heap.size]? = some (.cells #[.slice (some ⟨p1_0, 0, none⟩) x1.tables.length x1.tables.length, .int .i64 x1.next] 44) ∧ Own W (dRowSS x1.tables) (fun c => u1 ≤ c ∧ c < wx1.heap.size) (.slice (some ⟨p1_0, 0, none⟩) x1.tables.length x1.tables.length) ∧ W.heap[wx2.heap.size]? = some (.cells #[.string ⟨x2.nm.toArray⟩, .string ⟨x2.tb.toArray⟩, .slice (some ⟨p2_2, 0, none⟩) x2.cs.length x2.cs.length, .bool x2.ini, .bool x2.ins, .bool x2.del, .bool x2.mod, .slice (some ⟨p2_7, 0, none⟩) x2.wh.length x2.wh.length] 48) ∧ Own W (dStringS x2.cs) (Y2 2) (.slice (some ⟨p2_2, 0, none⟩) x2.cs.length x2.cs.length) ∧ Own W (dCondS x2.wh) (Y2 7) (.slice (some ⟨p2_7, 0, none⟩) x2.wh.length x2.wh.length) ∧ Own W (dRowS R0) (fun c => ug ≤ c ∧ c < wg.heap.size) (.slice ga R0.length gc)) → Frm (fun c => u0 ≤ c ∧ c < wx0.heap.size) W W' → (Own W' ((dTableS x0.tables).mkd (1)) (fun c => u0 ≤ c ∧ c < wx0.heap.size) (.slice (some ⟨p0_0, 0, none⟩) x0.tables.length x0.tables.length)) → (Below w.heap.size w W' ∧ W'.heap[w.heap.size]? = some (.cells #[.slice a0_0 x0.tables.length c0_0] 24) ∧ W'.heap[w.heap.size + 1]? = some (.cells #[.slice a1_0 x1.tables.length c1_0, .int .i64 x1.next] 27) ∧ W'.heap[w.heap.size + 1 + 1]? = some (.cells #[.string ⟨x2.nm.toArray⟩, .string ⟨x2.tb.toArray⟩, .slice a2_2 x2.cs.length c2_2, .bool x2.ini, .bool x2.ins, .bool x2.del, .bool x2.mod, .slice a2_7 x2.wh.length c2_7] 31) ∧ Rd W' (· < wc.heap.size) (dRowS R0) (.slice ra R0.length rc) ∧ W'.heap[wx0.heap.size]? = some (.cells #[.slice (some ⟨p0_0, 0, none⟩) x0.tables.length x0.tables.length] 40) ∧ Own W' ((dTableS x0.tables).mkd (1)) (fun c => u0 ≤ c ∧ c < wx0.heap.size) (.slice (some ⟨p0_0, 0, none⟩) x0.tables.length x0.tables.length) ∧ W'.heap[wx1.heap.size]? = some (.cells #[.slice (some ⟨p1_0, 0, none⟩) x1.tables.length x1.tables.length, .int .i64 x1.next] 44) ∧ Own W' (dRowSS x1.tables) (fun c => u1 ≤ c ∧ c < wx1.heap.size) (.slice (some ⟨p1_0, 0, none⟩) x1.tables.length x1.tables.length) ∧ W'.heap[wx2.heap.size]? = some (.cells #[.string ⟨x2.nm.toArray⟩, .string ⟨x2.tb.toArray⟩, .slice (some ⟨p2_2, 0, none⟩) x2.cs.length x2.cs.length, .bool x2.ini, .bool x2.ins, .bool x2.del, .bool x2.mod, .slice (some ⟨p2_7, 0, none⟩) x2.wh.length x2.wh.length] 48) ∧ Own W' (dStringS x2.cs) (Y2 2) (.slice (some ⟨p2_2, 0, none⟩) x2.cs.length x2.cs.length) ∧ Own W' (dCondS x2.wh) (Y2 7) (.slice (some ⟨p2_7, 0, none⟩) x2.wh.length x2.wh.length) ∧ Own W' (dRowS R0) (fun c => ug ≤ c ∧ c < wg.heap.size) (.slice ga R0.length gc))) := fun W W' h hF ho0 => ⟨h.1.trans (Frm.below hF h.1.size (fun b hb hx => by have h1 := (fun (b : Nat) (hb : u0 ≤ b ∧ b < wx0.heap.size) => hb) b hx; have h2 := ORD.out; omega)), (hF.block _ (Array.getElem?_eq_some_iff.1 h.2.1).1 (fun hx => by have h1 := (fun (b : Nat) (hb : u0 ≤ b ∧ b < wx0.heap.size) => hb) _ hx; have h2 := ORD.out; omega)).trans h.2.1, (hF.block _ (Array.getElem?_eq_some_iff.1 h.2.2.1).1 (fun hx => by have h1 := (fun (b : Nat) (hb : u0 ≤ b ∧ b < wx0.heap.size) => hb) _ hx; have h2 := ORD.out; omega)).trans h.2.2.1, (hF.block _ (Array.getElem?_eq_some_iff.1 h.2.2.2.1).1 (fun hx => by have h1 := (fun (b : Nat) (hb : u0 ≤ b ∧ b < wx0.heap.size) => hb) _ hx; have h2 := ORD.out; omega)).trans h.2.2.2.1, h.2.2.2.2.1.frm hF (fun b hb hx => by have h1 := (fun (b : Nat) (hb : u0 ≤ b ∧ b < wx0.heap.size) => hb) b hx; have h2 := ORD.out; have h3 : b < wc.heap.size := hb; omega), (hF.block _ (Array.getElem?_eq_some_iff.1 h.2.2.2.2.2.1).1 (fun hx => by have h1 := (fun (b : Nat) (hb : u0 ≤ b ∧ b < wx0.heap.size) => hb) _ hx; have h2 := ORD.out; omega)).trans h.2.2.2.2.2.1, ho0, (hF.block _ (Array.getElem?_eq_some_iff.1 h.2.2.2.2.2.2.2.1).1 (fun hx => by have h1 := (fun (b : Nat) (hb : u0 ≤ b ∧ b < wx0.heap.size) => hb) _ hx; have h2 := ORD.out; omega)).trans h.2.2.2.2.2.2.2.1, h.2.2.2.2.2.2.2.2.1.frm hF (fun b hb hx => by have h1 := (fun (b : Nat) (hb : u0 ≤ b ∧ b < wx0.heap.size) => hb) b hx; have h2 := ORD.out; have h3 := (fun (b : Nat) (hb : u1 ≤ b ∧ b < wx1.heap.size) => hb) b hb; omega), (hF.block _ (Array.getElem?_eq_some_iff.1 h.2.2.2.2.2.2.2.2.2.1).1 (fun hx => by have h1 := (fun (b : Nat) (hb : u0 ≤ b ∧ b < wx0.heap.size) => hb) _ hx; have h2 := ORD.out; omega)).trans h.2.2.2.2.2.2.2.2.2.1, h.2.2.2.2.2.2.2.2.2.2.1.frm hF (fun b hb hx => by have h1 := (fun (b : Nat) (hb : u0 ≤ b ∧ b < wx0.heap.size) => hb) b hx; have h2 := ORD.out; have h3 := (fun b hb => YS2.out 2 b hb) b hb; omega), h.2.2.2.2.2.2.2.2.2.2.2.1.frm hF (fun b hb hx => by have h1 := (fun (b : Nat) (hb : u0 ≤ b ∧ b < wx0.heap.size) => hb) b hx; have h2 := ORD.out; have h3 := (fun b hb => YS2.out 7 b hb) b hb; omega), h.2.2.2.2.2.2.2.2.2.2.2.2.frm hF (fun b hb hx => by have h1 := (fun (b : Nat) (hb : u0 ≤ b ∧ b < wx0.heap.size) => hb) b hx; have h2 := ORD.out; have h3 := (fun (b : Nat) (hb : ug ≤ b ∧ b < wg.heap.size) => hb) b hb; omega)⟩
 refine (mkDSchema x0 (some ⟨p0_0, 0, none⟩) x0.tables.length (1) (fun c => u0 ≤ c ∧ c < wx0.heap.size) _ (HO0.out 0 (by omega)) (by omega) (by have g0 := D.wd_le (dTableS x0.tables) (HO0.out 0 (by omega)); have gz := HZ0.out; rw [szT_Schema] at gz; omega) (N4.out.2.2.2.2.2.2.1)).mono ?_
 rintro e wm0 ⟨rfl, ho, hF⟩
 have N5 := Lib.hid (T0F.out _ _ N4.out hF ho)
 clear f_arg0_0 f_arg1_0 f_arg1_1 f_arg2_0 f_arg2_1 f_arg2_2 f_arg2_3 f_arg2_4 f_arg2_5 f_arg2_6 f_arg2_7 f_x0_0 f_x1_0 f_x1_1 f_x2_0 f_x2_1 f_x2_2 f_x2_3 f_x2_4 f_x2_5 f_x2_6 f_x2_7
 clear ho hF N4
 have T0L : Hid (∀ W W', (Below w.heap.size w W ∧ W.heap[w.heap.size]? = some (.cells #[.slice a0_0 x0.tables.length c0_0] 24) ∧ W.heap[w.heap.size + 1]? = some (.cells #[.slice a1_0 x1.tables.length c1_0, .int .i64 x1.next] 27) ∧ W.heap[w.heap.size + 1 + 1]? = some (.cells #[.string ⟨x2.nm.toArray⟩, .string ⟨x2.tb.toArray⟩, .slice a2_2 x2.cs.length c2_2, .bool x2.ini, .bool x2.ins, .bool x2.del, .bool x2.mod, .slice a2_7 x2.wh.length c2_7] 31) ∧ Rd W (· < wc.heap.size) (dRowS R0) (.slice ra R0.length rc) ∧ W.heap[wx0.heap.size]? = some (.cells #[.slice (some ⟨p0_0, 0, none⟩) x0.tables.length x0.tables.length] 40) ∧ Own W ((dTableS x0.tables).mkd (1)) (fun c => u0 ≤ c ∧ c < wx0.heap.size) (.slice (some ⟨p0_0, 0, none⟩) x0.tables.length x0.tables.length) ∧ W.heap[wx1.heap.size]? = some (.cells #[.slice (some ⟨p1_0, 0, none⟩) x1.tables.length x1.tables.length, .int .i64 x1.next] 44) ∧ Own W (dRowSS x1.tables) (fun c => u1 ≤ c ∧ c < wx1.heap.size) (.slice (some ⟨p1_0, 0, none⟩) x1.tables.length x1.tables.length) ∧ W.heap[wx2.heap.size]? = some (.cells #[.string ⟨x2.nm.toArray⟩, .string ⟨x2.tb.toArray⟩, .slice (some ⟨p2_2, 0, none⟩) x2.cs.length x2.cs.length, .bool x2.ini, .bool x2.ins, .bool x2.del, .bool x2.mod, .slice (some ⟨p2_7, 0, none⟩) x2.wh.length x2.wh.length] 48) ∧ Own W (dStringS x2.cs) (Y2 2) (.slice (some ⟨p2_2, 0, none⟩) x2.cs.length x2.cs.length) ∧ Own W (dCondS x2.wh) (Y2 7) (.slice (some ⟨p2_7, 0, none⟩) x2.wh.length x2.wh.length) ∧ Own W (dRowS R0) (fun c => ug ≤ c ∧ c < wg.heap.size) (.slice ga R0.length gc)) → Below W.heap.size W W' → (Below w.heap.size w W' ∧ W'.heap[w.heap.size]? = some (.cells #[.slice a0_0 x0.tables.length c0_0] 24) ∧ W'.heap[w.heap.size + 1]? = some (.cells #[.slice a1_0 x1.tables.length c1_0, .int .i64 x1.next] 27) ∧ W'.heap[w.heap.size + 1 + 1]? = some (.cells #[.string ⟨x2.nm.toArray⟩, .string ⟨x2.tb.toArray⟩, .slice a2_2 x2.cs.length c2_2, .bool x2.ini, .bool x2.ins, .bool x2.del, .bool x2.mod, .slice a2_7 x2.wh.length c2_7] 31) ∧ Rd W' (· < wc.heap.size) (dRowS R0) (.slice ra R0.length rc) ∧ W'.heap[wx0.heap.size]? = some (.cells #[.slice (some ⟨p0_0, 0, none⟩) x0.tables.length x0.tables.length] 40) ∧ Own W' ((dTableS x0.tables).mkd (1)) (fun c => u0 ≤ c ∧ c < wx0.heap.size) (.slice (some ⟨p0_0, 0, none⟩) x0.tables.length x0.tables.length) ∧ W'.heap[wx1.heap.size]? = some (.cells #[.slice (some ⟨p1_0, 0, none⟩) x1.tables.length x1.tables.length, .int .i64 x1.next] 44) ∧ Own W' (dRowSS x1.tables) (fun c => u1 ≤ c ∧ c < wx1.heap.size) (.slice (some ⟨p1_0, 0, none⟩) x1.tables.length x1.tables.length) ∧ W'.heap[wx2.heap.size]? = some (.cells #[.string ⟨x2.nm.toArray⟩, .string ⟨x2.tb.toArray⟩, .slice (some ⟨p2_2, 0, none⟩) x2.cs.length x2.cs.length, .bool x2.ini, .bool x2.ins, .bool x2.del, .bool x2.mod, .slice (some ⟨p2_7, 0, none⟩) x2.wh.length x2.wh.length] 48) ∧ Own W' (dStringS x2.cs) (Y2 2) (.slice (some ⟨p2_2, 0, none⟩) x2.cs.length x2.cs.length) ∧ Own W' (dCondS x2.wh) (Y2 7) (.slice (some ⟨p2_7, 0, none⟩) x2.wh.length x2.wh.length) ∧ Own W' (dRowS R0) (fun c => ug ≤ c ∧ c < wg.heap.size) (.slice ga R0.length gc))) := fun W W' h hB => ⟨h.1.trans (hB.mono h.1.size), heap_keptD h.2.1 hB, heap_keptD h.2.2.1 hB, heap_keptD h.2.2.2.1 hB, h.2.2.2.2.1.later hB, heap_keptD h.2.2.2.2.2.1 hB, h.2.2.2.2.2.2.1.later hB, heap_keptD h.2.2.2.2.2.2.2.1 hB, h.2.2.2.2.2.2.2.2.1.later hB, heap_keptD h.2.2.2.2.2.2.2.2.2.1 hB, h.2.2.2.2.2.2.2.2.2.2.1.later hB, h.2.2.2.2.2.2.2.2.2.2.2.1.later hB, h.2.2.2.2.2.2.2.2.2.2.2.2.later hB⟩
 obtain ⟨k0, hk0⟩ : ∃ y : Nat, y = 1 + (dTableS x0.tables).wd := ⟨_, rfl⟩
 rw [← hk0]
 have hkb0 : Hid (k0 < 1000000000 ∧ 0 < k0) := by rw [hk0]; have g0 := D.wd_le (dTableS x0.tables) (HO0.out 0 (by omega)); have gz := HZ0.out; rw [szT_Schema] at gz; show _ ∧ _; omega
 have dk0 : decide ((k0 : Int) < 0) = false := by simp
 clear hk0
 have f_arg0_0 := cell_at (o := 0) N5.out.2.1 rfl
 have f_arg1_0 := cell_at (o := 0) N5.out.2.2.1 rfl
 have f_arg1_1 := cell_at (o := 1) N5.out.2.2.1 rfl
 have f_arg2_0 := cell_at (o := 0) N5.out.2.2.2.1 rfl
 have f_arg2_1 := cell_at (o := 1) N5.out.2.2.2.1 rfl
 have f_arg2_2 := cell_at (o := 2) N5.out.2.2.2.1 rfl
 have f_arg2_3 := cell_at (o := 3) N5.out.2.2.2.1 rfl
 have f_arg2_4 := cell_at (o := 4) N5.out.2.2.2.1 rfl
 have f_arg2_5 := cell_at (o := 5) N5.out.2.2.2.1 rfl
 have f_arg2_6 := cell_at (o := 6) N5.out.2.2.2.1 rfl
 have f_arg2_7 := cell_at (o := 7) N5.out.2.2.2.1 rfl
 have f_x0_0 := cell_at (o := 0) N5.out.2.2.2.2.2.1 rfl
 have f_x1_0 := cell_at (o := 0) N5.out.2.2.2.2.2.2.2.1 rfl
 have f_x1_1 := cell_at (o := 1) N5.out.2.2.2.2.2.2.2.1 rfl
 have f_x2_0 := cell_at (o := 0) N5.out.2.2.2.2.2.2.2.2.2.1 rfl
 have f_x2_1 := cell_at (o := 1) N5.out.2.2.2.2.2.2.2.2.2.1 rfl
 have f_x2_2 := cell_at (o := 2) N5.out.2.2.2.2.2.2.2.2.2.1 rfl
 have f_x2_3 := cell_at (o := 3) N5.out.2.2.2.2.2.2.2.2.2.1 rfl
 have f_x2_4 := cell_at (o := 4) N5.out.2.2.2.2.2.2.2.2.2.1 rfl
 have f_x2_5 := cell_at (o := 5) N5.out.2.2.2.2.2.2.2.2.2.1 rfl
 have f_x2_6 := cell_at (o := 6) N5.out.2.2.2.2.2.2.2.2.2.1 rfl
 have f_x2_7 := cell_at (o := 7) N5.out.2.2.2.2.2.2.2.2.2.1 rfl
 go_wp2_with fail
 have T1F : Hid (∀ W W', (Below w.heap.size w W ∧ W.heap[w.heap.size]? = some (.cells #[.slice a0_0 x0.tables.length c0_0] 24) ∧ W.heap[w.heap.size + 1]? = some (.cells #[.slice a1_0 x1.tables.length c1_0, .int .i64 x1.next] 27) ∧ W.heap[w.heap.size + 1 + 1]? = some (.cells #[.string ⟨x2.nm.toArray⟩, .string ⟨x2.tb.toArray⟩, .slice a2_2 x2.cs.length c2_2, .bool x2.ini, .bool x2.ins, .bool x2.del, .bool x2.mod, .slice a2_7 x2.wh.length c2_7] 31) ∧ Rd W (· < wc.heap.size) (dRowS R0) (.slice ra R0.length rc) ∧ W.heap[wx0.heap.size]? = some (.cells #[.slice (some ⟨p0_0, 0, none⟩) x0.tables.length x0.tables.length] 40) ∧ Own W ((dTableS x0.tables).mkd (1)) (fun c => u0 ≤ c ∧ c < wx0.heap.size) (.slice (some ⟨p0_0, 0, none⟩) x0.tables.length x0.tables.length) ∧ W.heap[wx1.heap.size]? = some (.cells #[.slice (some ⟨p1_0, 0, none⟩) x1.tables.length x1.tables.length, .int .i64 x1.next] 44) ∧ Own W (dRowSS x1.tables) (fun c => u1 ≤ c ∧ c < wx1.heap.size) (.slice (some ⟨p1_0, 0, none⟩) x1.tables.length x1.tables.length) ∧ W.heap[wx2.heap.size]? = some (.cells #[.string ⟨x2.nm.toArray⟩, .string ⟨x2.tb.toArray⟩, .slice (some ⟨p2_2, 0, none⟩) x2.cs.length x2.cs.length, .bool x2.ini, .bool x2.ins, .bool x2.del, .bool x2.mod, .slice (some ⟨p2_7, 0, none⟩) x2.wh.length x2.wh.length] 48) ∧ Own W (dStringS x2.cs) (Y2 2) (.slice (some ⟨p2_2, 0, none⟩) x2.cs.length x2.cs.length) ∧ Own W (dCondS x2.wh) (Y2 7) (.slice (some ⟨p2_7, 0, none⟩) x2.wh.length x2.wh.length) ∧ Own W (dRowS R0) (fun c => ug ≤ c ∧ c < wg.heap.size) (.slice ga R0.length gc)) → Frm (fun c => u1 ≤ c ∧ c < wx1.heap.size) W W' → (Own W' ((dRowSS x1.tables).mkd (k0)) (fun c => u1 ≤ c ∧ c < wx1.heap.size) (.slice (some ⟨p1_0, 0, none⟩) x1.tables.length x1.tables.length)) → (Below w.heap.size w W' ∧ W'.heap[w.heap.size]? = some (.cells #[.slice a0_0 x0.tables.length c0_0] 24) ∧ W'.heap[w.heap.size + 1]? = some (.cells #[.slice a1_0 x1.tables.length c1_0, .int .i64 x1.next] 27) ∧ W'.heap[w.heap.size + 1 + 1]? = some (.cells #[.string ⟨x2.nm.toArray⟩, .string ⟨x2.tb.toArray⟩, .slice a2_2 x2.cs.length c2_2, .bool x2.ini, .bool x2.ins, .bool x2.del, .bool x2.mod, .slice a2_7 x2.wh.length c2_7] 31) ∧ Rd W' (· < wc.heap.size) (dRowS R0) (.slice ra R0.length rc) ∧ W'.heap[wx0.heap.size]? = some (.cells #[.slice (some ⟨p0_0, 0, none⟩) x0.tables.length x0.tables.length] 40) ∧ Own W' ((dTableS x0.tables).mkd (1)) (fun c => u0 ≤ c ∧ c < wx0.heap.size) (.slice (some ⟨p0_0, 0, none⟩) x0.tables.length x0.tables.length) ∧ W'.heap[wx1.heap.size]? = some (.cells #[.slice (some ⟨p1_0, 0, none⟩) x1.tables.length x1.tables.length, .int .i64 x1.next] 44) ∧ Own W' ((dRowSS x1.tables).mkd (k0)) (fun c => u1 ≤ c ∧ c < wx1.heap.size) (.slice (some ⟨p1_0, 0, none⟩) x1.tables.length x1.tables.length) ∧ W'.heap[wx2.heap.size]? = some (.cells #[.string ⟨x2.nm.toArray⟩, .string ⟨x2.tb.toArray⟩, .slice (some ⟨p2_2, 0, none⟩) x2.cs.length x2.cs.length, .bool x2.ini, .bool x2.ins, .bool x2.del, .bool x2.mod, .slice (some ⟨p2_7, 0, none⟩) x2.wh.length x2.wh.length] 48) ∧ Own W' (dStringS x2.cs) (Y2 2) (.slice (some ⟨p2_2, 0, none⟩) x2.cs.length x2.cs.length) ∧ Own W' (dCondS x2.wh) (Y2 7) (.slice (some ⟨p2_7, 0, none⟩) x2.wh.length x2.wh.length) ∧ Own W' (dRowS R0) (fun c => ug ≤ c ∧ c < wg.heap.size) (.slice ga R0.length gc))) := fun W W' h hF ho0 => ⟨h.1.trans (Frm.below hF h.1.size (fun b hb hx => by have h1 := (fun (b : Nat) (hb : u1 ≤ b ∧ b < wx1.heap.size) => hb) b hx; have h2 := ORD.out; omega)), (hF.block _ (Array.getElem?_eq_some_iff.1 h.2.1).1 (fun hx => by have h1 := (fun (b : Nat) (hb : u1 ≤ b ∧ b < wx1.heap.size) => hb) _ hx; have h2 := ORD.out; omega)).trans h.2.1, (hF.block _ (Array.getElem?_eq_some_iff.1 h.2.2.1).1 (fun hx => by have h1 := (fun (b : Nat) (hb : u1 ≤ b ∧ b < wx1.heap.size) => hb) _ hx; have h2 := ORD.out; omega)).trans h.2.2.1, (hF.block _ (Array.getElem?_eq_some_iff.1 h.2.2.2.1).1 (fun hx => by have h1 := (fun (b : Nat) (hb : u1 ≤ b ∧ b < wx1.heap.size) => hb) _ hx; have h2 := ORD.out; omega)).trans h.2.2.2.1, h.2.2.2.2.1.frm hF (fun b hb hx => by have h1 := (fun (b : Nat) (hb : u1 ≤ b ∧ b < wx1.heap.size) => hb) b hx; have h2 := ORD.out; have h3 : b < wc.heap.size := hb; omega), (hF.block _ (Array.getElem?_eq_some_iff.1 h.2.2.2.2.2.1).1 (fun hx => by have h1 := (fun (b : Nat) (hb : u1 ≤ b ∧ b < wx1.heap.size) => hb) _ hx; have h2 := ORD.out; omega)).trans h.2.2.2.2.2.1, h.2.2.2.2.2.2.1.frm hF (fun b hb hx => by have h1 := (fun (b : Nat) (hb : u1 ≤ b ∧ b < wx1.heap.size) => hb) b hx; have h2 := ORD.out; have h3 := (fun (b : Nat) (hb : u0 ≤ b ∧ b < wx0.heap.size) => hb) b hb; omega), (hF.block _ (Array.getElem?_eq_some_iff.1 h.2.2.2.2.2.2.2.1).1 (fun hx => by have h1 := (fun (b : Nat) (hb : u1 ≤ b ∧ b < wx1.heap.size) => hb) _ hx; have h2 := ORD.out; omega)).trans h.2.2.2.2.2.2.2.1, ho0, (hF.block _ (Array.getElem?_eq_some_iff.1 h.2.2.2.2.2.2.2.2.2.1).1 (fun hx => by have h1 := (fun (b : Nat) (hb : u1 ≤ b ∧ b < wx1.heap.size) => hb) _ hx; have h2 := ORD.out; omega)).trans h.2.2.2.2.2.2.2.2.2.1, h.2.2.2.2.2.2.2.2.2.2.1.frm hF (fun b hb hx => by have h1 := (fun (b : Nat) (hb : u1 ≤ b ∧ b < wx1.heap.size) => hb) b hx; have h2 := ORD.out; have h3 := (fun b hb => YS2.out 2 b hb) b hb; omega), h.2.2.2.2.2.2.2.2.2.2.2.1.frm hF (fun b hb hx => by have h1 := (fun (b : Nat) (hb : u1 ≤ b ∧ b < wx1.heap.size) => hb) b hx; have h2 := ORD.out; have h3 := (fun b hb => YS2.out 7 b hb) b hb; omega), h.2.2.2.2.2.2.2.2.2.2.2.2.frm hF (fun b hb hx => by have h1 := (fun (b : Nat) (hb : u1 ≤ b ∧ b < wx1.heap.size) => hb) b hx; have h2 := ORD.out; have h3 := (fun (b : Nat) (hb : ug ≤ b ∧ b < wg.heap.size) => hb) b hb; omega)⟩
 refine (mkDStore x1 (some ⟨p1_0, 0, none⟩) x1.tables.length (k0) (fun c => u1 ≤ c ∧ c < wx1.heap.size) _ (HO1.out 0 (by omega)) (by have gk := hkb0.out; omega) (by have gk := hkb0.out; have g0 := D.wd_le (dRowSS x1.tables) (HO1.out 0 (by omega)); have gz := HZ1.out; rw [szT_Store] at gz; omega) (N5.out.2.2.2.2.2.2.2.2.1)).mono ?_
 rintro e wm1 ⟨rfl, ho, hF⟩
 have N6 := Lib.hid (T1F.out _ _ N5.out hF ho)
 clear f_arg0_0 f_arg1_0 f_arg1_1 f_arg2_0 f_arg2_1 f_arg2_2 f_arg2_3 f_arg2_4 f_arg2_5 f_arg2_6 f_arg2_7 f_x0_0 f_x1_0 f_x1_1 f_x2_0 f_x2_1 f_x2_2 f_x2_3 f_x2_4 f_x2_5 f_x2_6 f_x2_7
 clear ho hF N5
 have T1L : Hid (∀ W W', (Below w.heap.size w W ∧ W.heap[w.heap.size]? = some (.cells #[.slice a0_0 x0.tables.length c0_0] 24) ∧ W.heap[w.heap.size + 1]? = some (.cells #[.slice a1_0 x1.tables.length c1_0, .int .i64 x1.next] 27) ∧ W.heap[w.heap.size + 1 + 1]? = some (.cells #[.string ⟨x2.nm.toArray⟩, .string ⟨x2.tb.toArray⟩, .slice a2_2 x2.cs.length c2_2, .bool x2.ini, .bool x2.ins, .bool x2.del, .bool x2.mod, .slice a2_7 x2.wh.length c2_7] 31) ∧ Rd W (· < wc.heap.size) (dRowS R0) (.slice ra R0.length rc) ∧ W.heap[wx0.heap.size]? = some (.cells #[.slice (some ⟨p0_0, 0, none⟩) x0.tables.length x0.tables.length] 40) ∧ Own W ((dTableS x0.tables).mkd (1)) (fun c => u0 ≤ c ∧ c < wx0.heap.size) (.slice (some ⟨p0_0, 0, none⟩) x0.tables.length x0.tables.length) ∧ W.heap[wx1.heap.size]? = some (.cells #[.slice (some ⟨p1_0, 0, none⟩) x1.tables.length x1.tables.length, .int .i64 x1.next] 44) ∧ Own W ((dRowSS x1.tables).mkd (k0)) (fun c => u1 ≤ c ∧ c < wx1.heap.size) (.slice (some ⟨p1_0, 0, none⟩) x1.tables.length x1.tables.length) ∧ W.heap[wx2.heap.size]? = some (.cells #[.string ⟨x2.nm.toArray⟩, .string ⟨x2.tb.toArray⟩, .slice (some ⟨p2_2, 0, none⟩) x2.cs.length x2.cs.length, .bool x2.ini, .bool x2.ins, .bool x2.del, .bool x2.mod, .slice (some ⟨p2_7, 0, none⟩) x2.wh.length x2.wh.length] 48) ∧ Own W (dStringS x2.cs) (Y2 2) (.slice (some ⟨p2_2, 0, none⟩) x2.cs.length x2.cs.length) ∧ Own W (dCondS x2.wh) (Y2 7) (.slice (some ⟨p2_7, 0, none⟩) x2.wh.length x2.wh.length) ∧ Own W (dRowS R0) (fun c => ug ≤ c ∧ c < wg.heap.size) (.slice ga R0.length gc)) → Below W.heap.size W W' → (Below w.heap.size w W' ∧ W'.heap[w.heap.size]? = some (.cells #[.slice a0_0 x0.tables.length c0_0] 24) ∧ W'.heap[w.heap.size + 1]? = some (.cells #[.slice a1_0 x1.tables.length c1_0, .int .i64 x1.next] 27) ∧ W'.heap[w.heap.size + 1 + 1]? = some (.cells #[.string ⟨x2.nm.toArray⟩, .string ⟨x2.tb.toArray⟩, .slice a2_2 x2.cs.length c2_2, .bool x2.ini, .bool x2.ins, .bool x2.del, .bool x2.mod, .slice a2_7 x2.wh.length c2_7] 31) ∧ Rd W' (· < wc.heap.size) (dRowS R0) (.slice ra R0.length rc) ∧ W'.heap[wx0.heap.size]? = some (.cells #[.slice (some ⟨p0_0, 0, none⟩) x0.tables.length x0.tables.length] 40) ∧ Own W' ((dTableS x0.tables).mkd (1)) (fun c => u0 ≤ c ∧ c < wx0.heap.size) (.slice (some ⟨p0_0, 0, none⟩) x0.tables.length x0.tables.length) ∧ W'.heap[wx1.heap.size]? = some (.cells #[.slice (some ⟨p1_0, 0, none⟩) x1.tables.length x1.tables.length, .int .i64 x1.next] 44) ∧ Own W' ((dRowSS x1.tables).mkd (k0)) (fun c => u1 ≤ c ∧ c < wx1.heap.size) (.slice (some ⟨p1_0, 0, none⟩) x1.tables.length x1.tables.length) ∧ W'.heap[wx2.heap.size]? = some (.cells #[.string ⟨x2.nm.toArray⟩, .string ⟨x2.tb.toArray⟩, .slice (some ⟨p2_2, 0, none⟩) x2.cs.length x2.cs.length, .bool x2.ini, .bool x2.ins, .bool x2.del, .bool x2.mod, .slice (some ⟨p2_7, 0, none⟩) x2.wh.length x2.wh.length] 48) ∧ Own W' (dStringS x2.cs) (Y2 2) (.slice (some ⟨p2_2, 0, none⟩) x2.cs.length x2.cs.length) ∧ Own W' (dCondS x2.wh) (Y2 7) (.slice (some ⟨p2_7, 0, none⟩) x2.wh.length x2.wh.length) ∧ Own W' (dRowS R0) (fun c => ug ≤ c ∧ c < wg.heap.size) (.slice ga R0.length gc))) := fun W W' h hB => ⟨h.1.trans (hB.mono h.1.size), heap_keptD h.2.1 hB, heap_keptD h.2.2.1 hB, heap_keptD h.2.2.2.1 hB, h.2.2.2.2.1.later hB, heap_keptD h.2.2.2.2.2.1 hB, h.2.2.2.2.2.2.1.later hB, heap_keptD h.2.2.2.2.2.2.2.1 hB, h.2.2.2.2.2.2.2.2.1.later hB, heap_keptD h.2.2.2.2.2.2.2.2.2.1 hB, h.2.2.2.2.2.2.2.2.2.2.1.later hB, h.2.2.2.2.2.2.2.2.2.2.2.1.later hB, h.2.2.2.2.2.2.2.2.2.2.2.2.later hB⟩
 obtain ⟨k1, hk1⟩ : ∃ y : Nat, y = k0 + (dRowSS x1.tables).wd := ⟨_, rfl⟩
 rw [← hk1]
 have hkb1 : Hid (k1 < 2000000000 ∧ 0 < k1) := by rw [hk1]; have gk := hkb0.out; have g0 := D.wd_le (dRowSS x1.tables) (HO1.out 0 (by omega)); have gz := HZ1.out; rw [szT_Store] at gz; show _ ∧ _; omega
 have dk1 : decide ((k1 : Int) < 0) = false := by simp
 clear hk1
 have f_arg0_0 := cell_at (o := 0) N6.out.2.1 rfl
 have f_arg1_0 := cell_at (o := 0) N6.out.2.2.1 rfl
 have f_arg1_1 := cell_at (o := 1) N6.out.2.2.1 rfl
 have f_arg2_0 := cell_at (o := 0) N6.out.2.2.2.1 rfl
 have f_arg2_1 := cell_at (o := 1) N6.out.2.2.2.1 rfl
 have f_arg2_2 := cell_at (o := 2) N6.out.2.2.2.1 rfl
 have f_arg2_3 := cell_at (o := 3) N6.out.2.2.2.1 rfl
 have f_arg2_4 := cell_at (o := 4) N6.out.2.2.2.1 rfl
 have f_arg2_5 := cell_at (o := 5) N6.out.2.2.2.1 rfl
 have f_arg2_6 := cell_at (o := 6) N6.out.2.2.2.1 rfl
 have f_arg2_7 := cell_at (o := 7) N6.out.2.2.2.1 rfl
 have f_x0_0 := cell_at (o := 0) N6.out.2.2.2.2.2.1 rfl
 have f_x1_0 := cell_at (o := 0) N6.out.2.2.2.2.2.2.2.1 rfl
 have f_x1_1 := cell_at (o := 1) N6.out.2.2.2.2.2.2.2.1 rfl
 have f_x2_0 := cell_at (o := 0) N6.out.2.2.2.2.2.2.2.2.2.1 rfl
 have f_x2_1 := cell_at (o := 1) N6.out.2.2.2.2.2.2.2.2.2.1 rfl
 have f_x2_2 := cell_at (o := 2) N6.out.2.2.2.2.2.2.2.2.2.1 rfl
 have f_x2_3 := cell_at (o := 3) N6.out.2.2.2.2.2.2.2.2.2.1 rfl
 have f_x2_4 := cell_at (o := 4) N6.out.2.2.2.2.2.2.2.2.2.1 rfl
 have f_x2_5 := cell_at (o := 5) N6.out.2.2.2.2.2.2.2.2.2.1 rfl
 have f_x2_6 := cell_at (o := 6) N6.out.2.2.2.2.2.2.2.2.2.1 rfl
 have f_x2_7 := cell_at (o := 7) N6.out.2.2.2.2.2.2.2.2.2.1 rfl
 go_wp2_with fail
 have T2F : Hid (∀ W W', (Below w.heap.size w W ∧ W.heap[w.heap.size]? = some (.cells #[.slice a0_0 x0.tables.length c0_0] 24) ∧ W.heap[w.heap.size + 1]? = some (.cells #[.slice a1_0 x1.tables.length c1_0, .int .i64 x1.next] 27) ∧ W.heap[w.heap.size + 1 + 1]? = some (.cells #[.string ⟨x2.nm.toArray⟩, .string ⟨x2.tb.toArray⟩, .slice a2_2 x2.cs.length c2_2, .bool x2.ini, .bool x2.ins, .bool x2.del, .bool x2.mod, .slice a2_7 x2.wh.length c2_7] 31) ∧ Rd W (· < wc.heap.size) (dRowS R0) (.slice ra R0.length rc) ∧ W.heap[wx0.heap.size]? = some (.cells #[.slice (some ⟨p0_0, 0, none⟩) x0.tables.length x0.tables.length] 40) ∧ Own W ((dTableS x0.tables).mkd (1)) (fun c => u0 ≤ c ∧ c < wx0.heap.size) (.slice (some ⟨p0_0, 0, none⟩) x0.tables.length x0.tables.length) ∧ W.heap[wx1.heap.size]? = some (.cells #[.slice (some ⟨p1_0, 0, none⟩) x1.tables.length x1.tables.length, .int .i64 x1.next] 44) ∧ Own W ((dRowSS x1.tables).mkd (k0)) (fun c => u1 ≤ c ∧ c < wx1.heap.size) (.slice (some ⟨p1_0, 0, none⟩) x1.tables.length x1.tables.length) ∧ W.heap[wx2.heap.size]? = some (.cells #[.string ⟨x2.nm.toArray⟩, .string ⟨x2.tb.toArray⟩, .slice (some ⟨p2_2, 0, none⟩) x2.cs.length x2.cs.length, .bool x2.ini, .bool x2.ins, .bool x2.del, .bool x2.mod, .slice (some ⟨p2_7, 0, none⟩) x2.wh.length x2.wh.length] 48) ∧ Own W (dStringS x2.cs) (Y2 2) (.slice (some ⟨p2_2, 0, none⟩) x2.cs.length x2.cs.length) ∧ Own W (dCondS x2.wh) (Y2 7) (.slice (some ⟨p2_7, 0, none⟩) x2.wh.length x2.wh.length) ∧ Own W (dRowS R0) (fun c => ug ≤ c ∧ c < wg.heap.size) (.slice ga R0.length gc)) → Frm (fun b => (Y2 2) b ∨ (Y2 7) b) W W' → (Own W' ((dStringS x2.cs).mkd (k1)) (Y2 2) (.slice (some ⟨p2_2, 0, none⟩) x2.cs.length x2.cs.length)) → (Own W' ((dCondS x2.wh).mkd (k1 + (dStringS x2.cs).wd)) (Y2 7) (.slice (some ⟨p2_7, 0, none⟩) x2.wh.length x2.wh.length)) → (Below w.heap.size w W' ∧ W'.heap[w.heap.size]? = some (.cells #[.slice a0_0 x0.tables.length c0_0] 24) ∧ W'.heap[w.heap.size + 1]? = some (.cells #[.slice a1_0 x1.tables.length c1_0, .int .i64 x1.next] 27) ∧ W'.heap[w.heap.size + 1 + 1]? = some (.cells #[.string ⟨x2.nm.toArray⟩, .string ⟨x2.tb.toArray⟩, .slice a2_2 x2.cs.length c2_2, .bool x2.ini, .bool x2.ins, .bool x2.del, .bool x2.mod, .slice a2_7 x2.wh.length c2_7] 31) ∧ Rd W' (· < wc.heap.size) (dRowS R0) (.slice ra R0.length rc) ∧ W'.heap[wx0.heap.size]? = some (.cells #[.slice (some ⟨p0_0, 0, none⟩) x0.tables.length x0.tables.length] 40) ∧ Own W' ((dTableS x0.tables).mkd (1)) (fun c => u0 ≤ c ∧ c < wx0.heap.size) (.slice (some ⟨p0_0, 0, none⟩) x0.tables.length x0.tables.length) ∧ W'.heap[wx1.heap.size]? = some (.cells #[.slice (some ⟨p1_0, 0, none⟩) x1.tables.length x1.tables.length, .int .i64 x1.next] 44) ∧ Own W' ((dRowSS x1.tables).mkd (k0)) (fun c => u1 ≤ c ∧ c < wx1.heap.size) (.slice (some ⟨p1_0, 0, none⟩) x1.tables.length x1.tables.length) ∧ W'.heap[wx2.heap.size]? = some (.cells #[.string ⟨x2.nm.toArray⟩, .string ⟨x2.tb.toArray⟩, .slice (some ⟨p2_2, 0, none⟩) x2.cs.length x2.cs.length, .bool x2.ini, .bool x2.ins, .bool x2.del, .bool x2.mod, .slice (some ⟨p2_7, 0, none⟩) x2.wh.length x2.wh.length] 48) ∧ Own W' ((dStringS x2.cs).mkd (k1)) (Y2 2) (.slice (some ⟨p2_2, 0, none⟩) x2.cs.length x2.cs.length) ∧ Own W' ((dCondS x2.wh).mkd (k1 + (dStringS x2.cs).wd)) (Y2 7) (.slice (some ⟨p2_7, 0, none⟩) x2.wh.length x2.wh.length) ∧ Own W' (dRowS R0) (fun c => ug ≤ c ∧ c < wg.heap.size) (.slice ga R0.length gc))) := fun W W' h hF ho0 ho1 => ⟨h.1.trans (Frm.below hF h.1.size (fun b hb hx => by have h1 := (fun (b : Nat) (hb : (Y2 2) b ∨ (Y2 7) b) => hb.elim (fun h => YS2.out 2 b h) (fun h => YS2.out 7 b h)) b hx; have h2 := ORD.out; omega)), (hF.block _ (Array.getElem?_eq_some_iff.1 h.2.1).1 (fun hx => by have h1 := (fun (b : Nat) (hb : (Y2 2) b ∨ (Y2 7) b) => hb.elim (fun h => YS2.out 2 b h) (fun h => YS2.out 7 b h)) _ hx; have h2 := ORD.out; omega)).trans h.2.1, (hF.block _ (Array.getElem?_eq_some_iff.1 h.2.2.1).1 (fun hx => by have h1 := (fun (b : Nat) (hb : (Y2 2) b ∨ (Y2 7) b) => hb.elim (fun h => YS2.out 2 b h) (fun h => YS2.out 7 b h)) _ hx; have h2 := ORD.out; omega)).trans h.2.2.1, (hF.block _ (Array.getElem?_eq_some_iff.1 h.2.2.2.1).1 (fun hx => by have h1 := (fun (b : Nat) (hb : (Y2 2) b ∨ (Y2 7) b) => hb.elim (fun h => YS2.out 2 b h) (fun h => YS2.out 7 b h)) _ hx; have h2 := ORD.out; omega)).trans h.2.2.2.1, h.2.2.2.2.1.frm hF (fun b hb hx => by have h1 := (fun (b : Nat) (hb : (Y2 2) b ∨ (Y2 7) b) => hb.elim (fun h => YS2.out 2 b h) (fun h => YS2.out 7 b h)) b hx; have h2 := ORD.out; have h3 : b < wc.heap.size := hb; omega), (hF.block _ (Array.getElem?_eq_some_iff.1 h.2.2.2.2.2.1).1 (fun hx => by have h1 := (fun (b : Nat) (hb : (Y2 2) b ∨ (Y2 7) b) => hb.elim (fun h => YS2.out 2 b h) (fun h => YS2.out 7 b h)) _ hx; have h2 := ORD.out; omega)).trans h.2.2.2.2.2.1, h.2.2.2.2.2.2.1.frm hF (fun b hb hx => by have h1 := (fun (b : Nat) (hb : (Y2 2) b ∨ (Y2 7) b) => hb.elim (fun h => YS2.out 2 b h) (fun h => YS2.out 7 b h)) b hx; have h2 := ORD.out; have h3 := (fun (b : Nat) (hb : u0 ≤ b ∧ b < wx0.heap.size) => hb) b hb; omega), (hF.block _ (Array.getElem?_eq_some_iff.1 h.2.2.2.2.2.2.2.1).1 (fun hx => by have h1 := (fun (b : Nat) (hb : (Y2 2) b ∨ (Y2 7) b) => hb.elim (fun h => YS2.out 2 b h) (fun h => YS2.out 7 b h)) _ hx; have h2 := ORD.out; omega)).trans h.2.2.2.2.2.2.2.1, h.2.2.2.2.2.2.2.2.1.frm hF (fun b hb hx => by have h1 := (fun (b : Nat) (hb : (Y2 2) b ∨ (Y2 7) b) => hb.elim (fun h => YS2.out 2 b h) (fun h => YS2.out 7 b h)) b hx; have h2 := ORD.out; have h3 := (fun (b : Nat) (hb : u1 ≤ b ∧ b < wx1.heap.size) => hb) b hb; omega), (hF.block _ (Array.getElem?_eq_some_iff.1 h.2.2.2.2.2.2.2.2.2.1).1 (fun hx => by have h1 := (fun (b : Nat) (hb : (Y2 2) b ∨ (Y2 7) b) => hb.elim (fun h => YS2.out 2 b h) (fun h => YS2.out 7 b h)) _ hx; have h2 := ORD.out; omega)).trans h.2.2.2.2.2.2.2.2.2.1, ho0, ho1, h.2.2.2.2.2.2.2.2.2.2.2.2.frm hF (fun b hb hx => by have h1 := (fun (b : Nat) (hb : (Y2 2) b ∨ (Y2 7) b) => hb.elim (fun h => YS2.out 2 b h) (fun h => YS2.out 7 b h)) b hx; have h2 := ORD.out; have h3 := (fun (b : Nat) (hb : ug ≤ b ∧ b < wg.heap.size) => hb) b hb; omega)⟩
 refine (mkDMonitor x2 (some ⟨p2_2, 0, none⟩) x2.cs.length (some ⟨p2_7, 0, none⟩) x2.wh.length (k1) (Y2 2) (Y2 7) _ (HO2.out 2 (by omega)) (HO2.out 7 (by omega)) (by have gk := hkb1.out; omega) (by have gk := hkb1.out; have g2 := D.wd_le (dStringS x2.cs) (HO2.out 2 (by omega)); have g7 := D.wd_le (dCondS x2.wh) (HO2.out 7 (by omega)); have gz := HZ2.out; rw [szT_Monitor] at gz; omega) (N6.out.2.2.2.2.2.2.2.2.2.2.1) (N6.out.2.2.2.2.2.2.2.2.2.2.2.1) (fun b h h2 => by have := YD2.out 2 7 b h h2; omega) (fun b h h2 => by have := YD2.out 7 2 b h h2; omega)).mono ?_
 rintro e wm2 ⟨rfl, ⟨ho, ho2⟩, hF⟩
 have N7 := Lib.hid (T2F.out _ _ N6.out hF ho ho2)
 clear f_arg0_0 f_arg1_0 f_arg1_1 f_arg2_0 f_arg2_1 f_arg2_2 f_arg2_3 f_arg2_4 f_arg2_5 f_arg2_6 f_arg2_7 f_x0_0 f_x1_0 f_x1_1 f_x2_0 f_x2_1 f_x2_2 f_x2_3 f_x2_4 f_x2_5 f_x2_6 f_x2_7
 clear ho ho2 hF N6
 have T2L : Hid (∀ W W', (Below w.heap.size w W ∧ W.heap[w.heap.size]? = some (.cells #[.slice a0_0 x0.tables.length c0_0] 24) ∧ W.heap[w.heap.size + 1]? = some (.cells #[.slice a1_0 x1.tables.length c1_0, .int .i64 x1.next] 27) ∧ W.heap[w.heap.size + 1 + 1]? = some (.cells #[.string ⟨x2.nm.toArray⟩, .string ⟨x2.tb.toArray⟩, .slice a2_2 x2.cs.length c2_2, .bool x2.ini, .bool x2.ins, .bool x2.del, .bool x2.mod, .slice a2_7 x2.wh.length c2_7] 31) ∧ Rd W (· < wc.heap.size) (dRowS R0) (.slice ra R0.length rc) ∧ W.heap[wx0.heap.size]? = some (.cells #[.slice (some ⟨p0_0, 0, none⟩) x0.tables.length x0.tables.length] 40) ∧ Own W ((dTableS x0.tables).mkd (1)) (fun c => u0 ≤ c ∧ c < wx0.heap.size) (.slice (some ⟨p0_0, 0, none⟩) x0.tables.length x0.tables.length) ∧ W.heap[wx1.heap.size]? = some (.cells #[.slice (some ⟨p1_0, 0, none⟩) x1.tables.length x1.tables.length, .int .i64 x1.next] 44) ∧ Own W ((dRowSS x1.tables).mkd (k0)) (fun c => u1 ≤ c ∧ c < wx1.heap.size) (.slice (some ⟨p1_0, 0, none⟩) x1.tables.length x1.tables.length) ∧ W.heap[wx2.heap.size]? = some (.cells #[.string ⟨x2.nm.toArray⟩, .string ⟨x2.tb.toArray⟩, .slice (some ⟨p2_2, 0, none⟩) x2.cs.length x2.cs.length, .bool x2.ini, .bool x2.ins, .bool x2.del, .bool x2.mod, .slice (some ⟨p2_7, 0, none⟩) x2.wh.length x2.wh.length] 48) ∧ Own W ((dStringS x2.cs).mkd (k1)) (Y2 2) (.slice (some ⟨p2_2, 0, none⟩) x2.cs.length x2.cs.length) ∧ Own W ((dCondS x2.wh).mkd (k1 + (dStringS x2.cs).wd)) (Y2 7) (.slice (some ⟨p2_7, 0, none⟩) x2.wh.length x2.wh.length) ∧ Own W (dRowS R0) (fun c => ug ≤ c ∧ c < wg.heap.size) (.slice ga R0.length gc)) → Below W.heap.size W W' → (Below w.heap.size w W' ∧ W'.heap[w.heap.size]? = some (.cells #[.slice a0_0 x0.tables.length c0_0] 24) ∧ W'.heap[w.heap.size + 1]? = some (.cells #[.slice a1_0 x1.tables.length c1_0, .int .i64 x1.next] 27) ∧ W'.heap[w.heap.size + 1 + 1]? = some (.cells #[.string ⟨x2.nm.toArray⟩, .string ⟨x2.tb.toArray⟩, .slice a2_2 x2.cs.length c2_2, .bool x2.ini, .bool x2.ins, .bool x2.del, .bool x2.mod, .slice a2_7 x2.wh.length c2_7] 31) ∧ Rd W' (· < wc.heap.size) (dRowS R0) (.slice ra R0.length rc) ∧ W'.heap[wx0.heap.size]? = some (.cells #[.slice (some ⟨p0_0, 0, none⟩) x0.tables.length x0.tables.length] 40) ∧ Own W' ((dTableS x0.tables).mkd (1)) (fun c => u0 ≤ c ∧ c < wx0.heap.size) (.slice (some ⟨p0_0, 0, none⟩) x0.tables.length x0.tables.length) ∧ W'.heap[wx1.heap.size]? = some (.cells #[.slice (some ⟨p1_0, 0, none⟩) x1.tables.length x1.tables.length, .int .i64 x1.next] 44) ∧ Own W' ((dRowSS x1.tables).mkd (k0)) (fun c => u1 ≤ c ∧ c < wx1.heap.size) (.slice (some ⟨p1_0, 0, none⟩) x1.tables.length x1.tables.length) ∧ W'.heap[wx2.heap.size]? = some (.cells #[.string ⟨x2.nm.toArray⟩, .string ⟨x2.tb.toArray⟩, .slice (some ⟨p2_2, 0, none⟩) x2.cs.length x2.cs.length, .bool x2.ini, .bool x2.ins, .bool x2.del, .bool x2.mod, .slice (some ⟨p2_7, 0, none⟩) x2.wh.length x2.wh.length] 48) ∧ Own W' ((dStringS x2.cs).mkd (k1)) (Y2 2) (.slice (some ⟨p2_2, 0, none⟩) x2.cs.length x2.cs.length) ∧ Own W' ((dCondS x2.wh).mkd (k1 + (dStringS x2.cs).wd)) (Y2 7) (.slice (some ⟨p2_7, 0, none⟩) x2.wh.length x2.wh.length) ∧ Own W' (dRowS R0) (fun c => ug ≤ c ∧ c < wg.heap.size) (.slice ga R0.length gc))) := fun W W' h hB => ⟨h.1.trans (hB.mono h.1.size), heap_keptD h.2.1 hB, heap_keptD h.2.2.1 hB, heap_keptD h.2.2.2.1 hB, h.2.2.2.2.1.later hB, heap_keptD h.2.2.2.2.2.1 hB, h.2.2.2.2.2.2.1.later hB, heap_keptD h.2.2.2.2.2.2.2.1 hB, h.2.2.2.2.2.2.2.2.1.later hB, heap_keptD h.2.2.2.2.2.2.2.2.2.1 hB, h.2.2.2.2.2.2.2.2.2.2.1.later hB, h.2.2.2.2.2.2.2.2.2.2.2.1.later hB, h.2.2.2.2.2.2.2.2.2.2.2.2.later hB⟩
 obtain ⟨k2, hk2⟩ : ∃ y : Nat, y = k1 + (dStringS x2.cs).wd + (dCondS x2.wh).wd := ⟨_, rfl⟩
 rw [← hk2]
 have hkb2 : Hid (k2 < 3000000000 ∧ 0 < k2) := by rw [hk2]; have gk := hkb1.out; have g2 := D.wd_le (dStringS x2.cs) (HO2.out 2 (by omega)); have g7 := D.wd_le (dCondS x2.wh) (HO2.out 7 (by omega)); have gz := HZ2.out; rw [szT_Monitor] at gz; show _ ∧ _; omega
 have dk2 : decide ((k2 : Int) < 0) = false := by simp
 clear hk2
 have f_arg0_0 := cell_at (o := 0) N7.out.2.1 rfl
 have f_arg1_0 := cell_at (o := 0) N7.out.2.2.1 rfl
 have f_arg1_1 := cell_at (o := 1) N7.out.2.2.1 rfl
 have f_arg2_0 := cell_at (o := 0) N7.out.2.2.2.1 rfl
 have f_arg2_1 := cell_at (o := 1) N7.out.2.2.2.1 rfl
 have f_arg2_2 := cell_at (o := 2) N7.out.2.2.2.1 rfl
 have f_arg2_3 := cell_at (o := 3) N7.out.2.2.2.1 rfl
 have f_arg2_4 := cell_at (o := 4) N7.out.2.2.2.1 rfl
 have f_arg2_5 := cell_at (o := 5) N7.out.2.2.2.1 rfl
 have f_arg2_6 := cell_at (o := 6) N7.out.2.2.2.1 rfl
 have f_arg2_7 := cell_at (o := 7) N7.out.2.2.2.1 rfl
 have f_x0_0 := cell_at (o := 0) N7.out.2.2.2.2.2.1 rfl
 have f_x1_0 := cell_at (o := 0) N7.out.2.2.2.2.2.2.2.1 rfl
 have f_x1_1 := cell_at (o := 1) N7.out.2.2.2.2.2.2.2.1 rfl
 have f_x2_0 := cell_at (o := 0) N7.out.2.2.2.2.2.2.2.2.2.1 rfl
 have f_x2_1 := cell_at (o := 1) N7.out.2.2.2.2.2.2.2.2.2.1 rfl
 have f_x2_2 := cell_at (o := 2) N7.out.2.2.2.2.2.2.2.2.2.1 rfl
 have f_x2_3 := cell_at (o := 3) N7.out.2.2.2.2.2.2.2.2.2.1 rfl
 have f_x2_4 := cell_at (o := 4) N7.out.2.2.2.2.2.2.2.2.2.1 rfl
 have f_x2_5 := cell_at (o := 5) N7.out.2.2.2.2.2.2.2.2.2.1 rfl
 have f_x2_6 := cell_at (o := 6) N7.out.2.2.2.2.2.2.2.2.2.1 rfl
 have f_x2_7 := cell_at (o := 7) N7.out.2.2.2.2.2.2.2.2.2.1 rfl
 go_wp2_with fail
 refine (EQR.out _ _ _ _ _ (Rd.any (Own.rd' (N7.out.2.2.2.2.2.2.2.2.2.2.2.2))) (Rd.any (N7.out.2.2.2.2.1))).mono ?_
 rintro e wc7 ⟨rfl, hB⟩
 have N8 := Lib.hid (T2L.out _ _ N7.out hB)
 clear f_arg0_0 f_arg1_0 f_arg1_1 f_arg2_0 f_arg2_1 f_arg2_2 f_arg2_3 f_arg2_4 f_arg2_5 f_arg2_6 f_arg2_7 f_x0_0 f_x1_0 f_x1_1 f_x2_0 f_x2_1 f_x2_2 f_x2_3 f_x2_4 f_x2_5 f_x2_6 f_x2_7
 clear hB N7
 have f_arg0_0 := cell_at (o := 0) N8.out.2.1 rfl
 have f_arg1_0 := cell_at (o := 0) N8.out.2.2.1 rfl
 have f_arg1_1 := cell_at (o := 1) N8.out.2.2.1 rfl
 have f_arg2_0 := cell_at (o := 0) N8.out.2.2.2.1 rfl
 have f_arg2_1 := cell_at (o := 1) N8.out.2.2.2.1 rfl
 have f_arg2_2 := cell_at (o := 2) N8.out.2.2.2.1 rfl
 have f_arg2_3 := cell_at (o := 3) N8.out.2.2.2.1 rfl
 have f_arg2_4 := cell_at (o := 4) N8.out.2.2.2.1 rfl
 have f_arg2_5 := cell_at (o := 5) N8.out.2.2.2.1 rfl
 have f_arg2_6 := cell_at (o := 6) N8.out.2.2.2.1 rfl
 have f_arg2_7 := cell_at (o := 7) N8.out.2.2.2.1 rfl
 have f_x0_0 := cell_at (o := 0) N8.out.2.2.2.2.2.1 rfl
 have f_x1_0 := cell_at (o := 0) N8.out.2.2.2.2.2.2.2.1 rfl
 have f_x1_1 := cell_at (o := 1) N8.out.2.2.2.2.2.2.2.1 rfl
 have f_x2_0 := cell_at (o := 0) N8.out.2.2.2.2.2.2.2.2.2.1 rfl
 have f_x2_1 := cell_at (o := 1) N8.out.2.2.2.2.2.2.2.2.2.1 rfl
 have f_x2_2 := cell_at (o := 2) N8.out.2.2.2.2.2.2.2.2.2.1 rfl
 have f_x2_3 := cell_at (o := 3) N8.out.2.2.2.2.2.2.2.2.2.1 rfl
 have f_x2_4 := cell_at (o := 4) N8.out.2.2.2.2.2.2.2.2.2.1 rfl
 have f_x2_5 := cell_at (o := 5) N8.out.2.2.2.2.2.2.2.2.2.1 rfl
 have f_x2_6 := cell_at (o := 6) N8.out.2.2.2.2.2.2.2.2.2.1 rfl
 have f_x2_7 := cell_at (o := 7) N8.out.2.2.2.2.2.2.2.2.2.1 rfl
 go_wp2_with fail
 have TGF : Hid (∀ W W', (Below w.heap.size w W ∧ W.heap[w.heap.size]? = some (.cells #[.slice a0_0 x0.tables.length c0_0] 24) ∧ W.heap[w.heap.size + 1]? = some (.cells #[.slice a1_0 x1.tables.length c1_0, .int .i64 x1.next] 27) ∧ W.heap[w.heap.size + 1 + 1]? = some (.cells #[.string ⟨x2.nm.toArray⟩, .string ⟨x2.tb.toArray⟩, .slice a2_2 x2.cs.length c2_2, .bool x2.ini, .bool x2.ins, .bool x2.del, .bool x2.mod, .slice a2_7 x2.wh.length c2_7] 31) ∧ Rd W (· < wc.heap.size) (dRowS R0) (.slice ra R0.length rc) ∧ W.heap[wx0.heap.size]? = some (.cells #[.slice (some ⟨p0_0, 0, none⟩) x0.tables.length x0.tables.length] 40) ∧ Own W ((dTableS x0.tables).mkd (1)) (fun c => u0 ≤ c ∧ c < wx0.heap.size) (.slice (some ⟨p0_0, 0, none⟩) x0.tables.length x0.tables.length) ∧ W.heap[wx1.heap.size]? = some (.cells #[.slice (some ⟨p1_0, 0, none⟩) x1.tables.length x1.tables.length, .int .i64 x1.next] 44) ∧ Own W ((dRowSS x1.tables).mkd (k0)) (fun c => u1 ≤ c ∧ c < wx1.heap.size) (.slice (some ⟨p1_0, 0, none⟩) x1.tables.length x1.tables.length) ∧ W.heap[wx2.heap.size]? = some (.cells #[.string ⟨x2.nm.toArray⟩, .string ⟨x2.tb.toArray⟩, .slice (some ⟨p2_2, 0, none⟩) x2.cs.length x2.cs.length, .bool x2.ini, .bool x2.ins, .bool x2.del, .bool x2.mod, .slice (some ⟨p2_7, 0, none⟩) x2.wh.length x2.wh.length] 48) ∧ Own W ((dStringS x2.cs).mkd (k1)) (Y2 2) (.slice (some ⟨p2_2, 0, none⟩) x2.cs.length x2.cs.length) ∧ Own W ((dCondS x2.wh).mkd (k1 + (dStringS x2.cs).wd)) (Y2 7) (.slice (some ⟨p2_7, 0, none⟩) x2.wh.length x2.wh.length) ∧ Own W (dRowS R0) (fun c => ug ≤ c ∧ c < wg.heap.size) (.slice ga R0.length gc)) → Frm (fun c => ug ≤ c ∧ c < wg.heap.size) W W' → (Own W' ((dRowS R0).mkd 1) (fun c => ug ≤ c ∧ c < wg.heap.size) (.slice ga R0.length gc)) → (Below w.heap.size w W' ∧ W'.heap[w.heap.size]? = some (.cells #[.slice a0_0 x0.tables.length c0_0] 24) ∧ W'.heap[w.heap.size + 1]? = some (.cells #[.slice a1_0 x1.tables.length c1_0, .int .i64 x1.next] 27) ∧ W'.heap[w.heap.size + 1 + 1]? = some (.cells #[.string ⟨x2.nm.toArray⟩, .string ⟨x2.tb.toArray⟩, .slice a2_2 x2.cs.length c2_2, .bool x2.ini, .bool x2.ins, .bool x2.del, .bool x2.mod, .slice a2_7 x2.wh.length c2_7] 31) ∧ Rd W' (· < wc.heap.size) (dRowS R0) (.slice ra R0.length rc) ∧ W'.heap[wx0.heap.size]? = some (.cells #[.slice (some ⟨p0_0, 0, none⟩) x0.tables.length x0.tables.length] 40) ∧ Own W' ((dTableS x0.tables).mkd (1)) (fun c => u0 ≤ c ∧ c < wx0.heap.size) (.slice (some ⟨p0_0, 0, none⟩) x0.tables.length x0.tables.length) ∧ W'.heap[wx1.heap.size]? = some (.cells #[.slice (some ⟨p1_0, 0, none⟩) x1.tables.length x1.tables.length, .int .i64 x1.next] 44) ∧ Own W' ((dRowSS x1.tables).mkd (k0)) (fun c => u1 ≤ c ∧ c < wx1.heap.size) (.slice (some ⟨p1_0, 0, none⟩) x1.tables.length x1.tables.length) ∧ W'.heap[wx2.heap.size]? = some (.cells #[.string ⟨x2.nm.toArray⟩, .string ⟨x2.tb.toArray⟩, .slice (some ⟨p2_2, 0, none⟩) x2.cs.length x2.cs.length, .bool x2.ini, .bool x2.ins, .bool x2.del, .bool x2.mod, .slice (some ⟨p2_7, 0, none⟩) x2.wh.length x2.wh.length] 48) ∧ Own W' ((dStringS x2.cs).mkd (k1)) (Y2 2) (.slice (some ⟨p2_2, 0, none⟩) x2.cs.length x2.cs.length) ∧ Own W' ((dCondS x2.wh).mkd (k1 + (dStringS x2.cs).wd)) (Y2 7) (.slice (some ⟨p2_7, 0, none⟩) x2.wh.length x2.wh.length) ∧ Own W' ((dRowS R0).mkd 1) (fun c => ug ≤ c ∧ c < wg.heap.size) (.slice ga R0.length gc))) := fun W W' h hF ho0 => ⟨h.1.trans (Frm.below hF h.1.size (fun b hb hx => by have h1 := (fun (b : Nat) (hb : ug ≤ b ∧ b < wg.heap.size) => hb) b hx; have h2 := ORD.out; omega)), (hF.block _ (Array.getElem?_eq_some_iff.1 h.2.1).1 (fun hx => by have h1 := (fun (b : Nat) (hb : ug ≤ b ∧ b < wg.heap.size) => hb) _ hx; have h2 := ORD.out; omega)).trans h.2.1, (hF.block _ (Array.getElem?_eq_some_iff.1 h.2.2.1).1 (fun hx => by have h1 := (fun (b : Nat) (hb : ug ≤ b ∧ b < wg.heap.size) => hb) _ hx; have h2 := ORD.out; omega)).trans h.2.2.1, (hF.block _ (Array.getElem?_eq_some_iff.1 h.2.2.2.1).1 (fun hx => by have h1 := (fun (b : Nat) (hb : ug ≤ b ∧ b < wg.heap.size) => hb) _ hx; have h2 := ORD.out; omega)).trans h.2.2.2.1, h.2.2.2.2.1.frm hF (fun b hb hx => by have h1 := (fun (b : Nat) (hb : ug ≤ b ∧ b < wg.heap.size) => hb) b hx; have h2 := ORD.out; have h3 : b < wc.heap.size := hb; omega), (hF.block _ (Array.getElem?_eq_some_iff.1 h.2.2.2.2.2.1).1 (fun hx => by have h1 := (fun (b : Nat) (hb : ug ≤ b ∧ b < wg.heap.size) => hb) _ hx; have h2 := ORD.out; omega)).trans h.2.2.2.2.2.1, h.2.2.2.2.2.2.1.frm hF (fun b hb hx => by have h1 := (fun (b : Nat) (hb : ug ≤ b ∧ b < wg.heap.size) => hb) b hx; have h2 := ORD.out; have h3 := (fun (b : Nat) (hb : u0 ≤ b ∧ b < wx0.heap.size) => hb) b hb; omega), (hF.block _ (Array.getElem?_eq_some_iff.1 h.2.2.2.2.2.2.2.1).1 (fun hx => by have h1 := (fun (b : Nat) (hb : ug ≤ b ∧ b < wg.heap.size) => hb) _ hx; have h2 := ORD.out; omega)).trans h.2.2.2.2.2.2.2.1, h.2.2.2.2.2.2.2.2.1.frm hF (fun b hb hx => by have h1 := (fun (b : Nat) (hb : ug ≤ b ∧ b < wg.heap.size) => hb) b hx; have h2 := ORD.out; have h3 := (fun (b : Nat) (hb : u1 ≤ b ∧ b < wx1.heap.size) => hb) b hb; omega), (hF.block _ (Array.getElem?_eq_some_iff.1 h.2.2.2.2.2.2.2.2.2.1).1 (fun hx => by have h1 := (fun (b : Nat) (hb : ug ≤ b ∧ b < wg.heap.size) => hb) _ hx; have h2 := ORD.out; omega)).trans h.2.2.2.2.2.2.2.2.2.1, h.2.2.2.2.2.2.2.2.2.2.1.frm hF (fun b hb hx => by have h1 := (fun (b : Nat) (hb : ug ≤ b ∧ b < wg.heap.size) => hb) b hx; have h2 := ORD.out; have h3 := (fun b hb => YS2.out 2 b hb) b hb; omega), h.2.2.2.2.2.2.2.2.2.2.2.1.frm hF (fun b hb hx => by have h1 := (fun (b : Nat) (hb : ug ≤ b ∧ b < wg.heap.size) => hb) b hx; have h2 := ORD.out; have h3 := (fun b hb => YS2.out 7 b hb) b hb; omega), ho0⟩
 refine (mkDRowS R0 ga gc 1 (fun c => ug ≤ c ∧ c < wg.heap.size) _ HRB.out.1 (by omega) HRW.out (N8.out.2.2.2.2.2.2.2.2.2.2.2.2)).mono ?_
 rintro e wmg ⟨rfl, ho, hF⟩
 have N9 := Lib.hid (TGF.out _ _ N8.out hF ho)
 clear f_arg0_0 f_arg1_0 f_arg1_1 f_arg2_0 f_arg2_1 f_arg2_2 f_arg2_3 f_arg2_4 f_arg2_5 f_arg2_6 f_arg2_7 f_x0_0 f_x1_0 f_x1_1 f_x2_0 f_x2_1 f_x2_2 f_x2_3 f_x2_4 f_x2_5 f_x2_6 f_x2_7
 clear ho hF N8
 have TGL : Hid (∀ W W', (Below w.heap.size w W ∧ W.heap[w.heap.size]? = some (.cells #[.slice a0_0 x0.tables.length c0_0] 24) ∧ W.heap[w.heap.size + 1]? = some (.cells #[.slice a1_0 x1.tables.length c1_0, .int .i64 x1.next] 27) ∧ W.heap[w.heap.size + 1 + 1]? = some (.cells #[.string ⟨x2.nm.toArray⟩, .string ⟨x2.tb.toArray⟩, .slice a2_2 x2.cs.length c2_2, .bool x2.ini, .bool x2.ins, .bool x2.del, .bool x2.mod, .slice a2_7 x2.wh.length c2_7] 31) ∧ Rd W (· < wc.heap.size) (dRowS R0) (.slice ra R0.length rc) ∧ W.heap[wx0.heap.size]? = some (.cells #[.slice (some ⟨p0_0, 0, none⟩) x0.tables.length x0.tables.length] 40) ∧ Own W ((dTableS x0.tables).mkd (1)) (fun c => u0 ≤ c ∧ c < wx0.heap.size) (.slice (some ⟨p0_0, 0, none⟩) x0.tables.length x0.tables.length) ∧ W.heap[wx1.heap.size]? = some (.cells #[.slice (some ⟨p1_0, 0, none⟩) x1.tables.length x1.tables.length, .int .i64 x1.next] 44) ∧ Own W ((dRowSS x1.tables).mkd (k0)) (fun c => u1 ≤ c ∧ c < wx1.heap.size) (.slice (some ⟨p1_0, 0, none⟩) x1.tables.length x1.tables.length) ∧ W.heap[wx2.heap.size]? = some (.cells #[.string ⟨x2.nm.toArray⟩, .string ⟨x2.tb.toArray⟩, .slice (some ⟨p2_2, 0, none⟩) x2.cs.length x2.cs.length, .bool x2.ini, .bool x2.ins, .bool x2.del, .bool x2.mod, .slice (some ⟨p2_7, 0, none⟩) x2.wh.length x2.wh.length] 48) ∧ Own W ((dStringS x2.cs).mkd (k1)) (Y2 2) (.slice (some ⟨p2_2, 0, none⟩) x2.cs.length x2.cs.length) ∧ Own W ((dCondS x2.wh).mkd (k1 + (dStringS x2.cs).wd)) (Y2 7) (.slice (some ⟨p2_7, 0, none⟩) x2.wh.length x2.wh.length) ∧ Own W ((dRowS R0).mkd 1) (fun c => ug ≤ c ∧ c < wg.heap.size) (.slice ga R0.length gc)) → Below W.heap.size W W' → (Below w.heap.size w W' ∧ W'.heap[w.heap.size]? = some (.cells #[.slice a0_0 x0.tables.length c0_0] 24) ∧ W'.heap[w.heap.size + 1]? = some (.cells #[.slice a1_0 x1.tables.length c1_0, .int .i64 x1.next] 27) ∧ W'.heap[w.heap.size + 1 + 1]? = some (.cells #[.string ⟨x2.nm.toArray⟩, .string ⟨x2.tb.toArray⟩, .slice a2_2 x2.cs.length c2_2, .bool x2.ini, .bool x2.ins, .bool x2.del, .bool x2.mod, .slice a2_7 x2.wh.length c2_7] 31) ∧ Rd W' (· < wc.heap.size) (dRowS R0) (.slice ra R0.length rc) ∧ W'.heap[wx0.heap.size]? = some (.cells #[.slice (some ⟨p0_0, 0, none⟩) x0.tables.length x0.tables.length] 40) ∧ Own W' ((dTableS x0.tables).mkd (1)) (fun c => u0 ≤ c ∧ c < wx0.heap.size) (.slice (some ⟨p0_0, 0, none⟩) x0.tables.length x0.tables.length) ∧ W'.heap[wx1.heap.size]? = some (.cells #[.slice (some ⟨p1_0, 0, none⟩) x1.tables.length x1.tables.length, .int .i64 x1.next] 44) ∧ Own W' ((dRowSS x1.tables).mkd (k0)) (fun c => u1 ≤ c ∧ c < wx1.heap.size) (.slice (some ⟨p1_0, 0, none⟩) x1.tables.length x1.tables.length) ∧ W'.heap[wx2.heap.size]? = some (.cells #[.string ⟨x2.nm.toArray⟩, .string ⟨x2.tb.toArray⟩, .slice (some ⟨p2_2, 0, none⟩) x2.cs.length x2.cs.length, .bool x2.ini, .bool x2.ins, .bool x2.del, .bool x2.mod, .slice (some ⟨p2_7, 0, none⟩) x2.wh.length x2.wh.length] 48) ∧ Own W' ((dStringS x2.cs).mkd (k1)) (Y2 2) (.slice (some ⟨p2_2, 0, none⟩) x2.cs.length x2.cs.length) ∧ Own W' ((dCondS x2.wh).mkd (k1 + (dStringS x2.cs).wd)) (Y2 7) (.slice (some ⟨p2_7, 0, none⟩) x2.wh.length x2.wh.length) ∧ Own W' ((dRowS R0).mkd 1) (fun c => ug ≤ c ∧ c < wg.heap.size) (.slice ga R0.length gc))) := fun W W' h hB => ⟨h.1.trans (hB.mono h.1.size), heap_keptD h.2.1 hB, heap_keptD h.2.2.1 hB, heap_keptD h.2.2.2.1 hB, h.2.2.2.2.1.later hB, heap_keptD h.2.2.2.2.2.1 hB, h.2.2.2.2.2.2.1.later hB, heap_keptD h.2.2.2.2.2.2.2.1 hB, h.2.2.2.2.2.2.2.2.1.later hB, heap_keptD h.2.2.2.2.2.2.2.2.2.1 hB, h.2.2.2.2.2.2.2.2.2.2.1.later hB, h.2.2.2.2.2.2.2.2.2.2.2.1.later hB, h.2.2.2.2.2.2.2.2.2.2.2.2.later hB⟩
 have HD : Hid (∀ (W : World), Rd W (fun _ => True) ((dRowS R0).mkd 1) (.slice ga R0.length gc) → Calls Tryz.prog 20 #[.slice ga R0.length gc, .int .i64 1] W fun e w' => e = .returned (.int .i64 (1 + (dRowS R0).wd : Nat)) ∧ Below W.heap.size W w') := fun W h => hdDRowS R0 ga gc 1 _ W HRB.out.1 (by omega) HRW.out h
 obtain ⟨kg, hkg⟩ : ∃ y : Nat, y = 1 + (dRowS R0).wd := ⟨_, rfl⟩
 rw [← hkg] at HD ⊢
 have dkg : decide ((kg : Int) < 0) = false := by simp
 have nkg : ((kg : Int) != (kg : Int)) = false := by simp
 clear hkg
 have f_arg0_0 := cell_at (o := 0) N9.out.2.1 rfl
 have f_arg1_0 := cell_at (o := 0) N9.out.2.2.1 rfl
 have f_arg1_1 := cell_at (o := 1) N9.out.2.2.1 rfl
 have f_arg2_0 := cell_at (o := 0) N9.out.2.2.2.1 rfl
 have f_arg2_1 := cell_at (o := 1) N9.out.2.2.2.1 rfl
 have f_arg2_2 := cell_at (o := 2) N9.out.2.2.2.1 rfl
 have f_arg2_3 := cell_at (o := 3) N9.out.2.2.2.1 rfl
 have f_arg2_4 := cell_at (o := 4) N9.out.2.2.2.1 rfl
 have f_arg2_5 := cell_at (o := 5) N9.out.2.2.2.1 rfl
 have f_arg2_6 := cell_at (o := 6) N9.out.2.2.2.1 rfl
 have f_arg2_7 := cell_at (o := 7) N9.out.2.2.2.1 rfl
 have f_x0_0 := cell_at (o := 0) N9.out.2.2.2.2.2.1 rfl
 have f_x1_0 := cell_at (o := 0) N9.out.2.2.2.2.2.2.2.1 rfl
 have f_x1_1 := cell_at (o := 1) N9.out.2.2.2.2.2.2.2.1 rfl
 have f_x2_0 := cell_at (o := 0) N9.out.2.2.2.2.2.2.2.2.2.1 rfl
 have f_x2_1 := cell_at (o := 1) N9.out.2.2.2.2.2.2.2.2.2.1 rfl
 have f_x2_2 := cell_at (o := 2) N9.out.2.2.2.2.2.2.2.2.2.1 rfl
 have f_x2_3 := cell_at (o := 3) N9.out.2.2.2.2.2.2.2.2.2.1 rfl
 have f_x2_4 := cell_at (o := 4) N9.out.2.2.2.2.2.2.2.2.2.1 rfl
 have f_x2_5 := cell_at (o := 5) N9.out.2.2.2.2.2.2.2.2.2.1 rfl
 have f_x2_6 := cell_at (o := 6) N9.out.2.2.2.2.2.2.2.2.2.1 rfl
 have f_x2_7 := cell_at (o := 7) N9.out.2.2.2.2.2.2.2.2.2.1 rfl
 go_wp2_with fail
 refine (HD.out _ (Rd.any (Own.rd' (N9.out.2.2.2.2.2.2.2.2.2.2.2.2)))).mono ?_
 rintro e wh9 ⟨rfl, hB⟩
 have N10 := Lib.hid (TGL.out _ _ N9.out hB)
 clear f_arg0_0 f_arg1_0 f_arg1_1 f_arg2_0 f_arg2_1 f_arg2_2 f_arg2_3 f_arg2_4 f_arg2_5 f_arg2_6 f_arg2_7 f_x0_0 f_x1_0 f_x1_1 f_x2_0 f_x2_1 f_x2_2 f_x2_3 f_x2_4 f_x2_5 f_x2_6 f_x2_7
 clear hB N9
 have f_arg0_0 := cell_at (o := 0) N10.out.2.1 rfl
 have f_arg1_0 := cell_at (o := 0) N10.out.2.2.1 rfl
 have f_arg1_1 := cell_at (o := 1) N10.out.2.2.1 rfl
 have f_arg2_0 := cell_at (o := 0) N10.out.2.2.2.1 rfl
 have f_arg2_1 := cell_at (o := 1) N10.out.2.2.2.1 rfl
 have f_arg2_2 := cell_at (o := 2) N10.out.2.2.2.1 rfl
 have f_arg2_3 := cell_at (o := 3) N10.out.2.2.2.1 rfl
 have f_arg2_4 := cell_at (o := 4) N10.out.2.2.2.1 rfl
 have f_arg2_5 := cell_at (o := 5) N10.out.2.2.2.1 rfl
 have f_arg2_6 := cell_at (o := 6) N10.out.2.2.2.1 rfl
 have f_arg2_7 := cell_at (o := 7) N10.out.2.2.2.1 rfl
 have f_x0_0 := cell_at (o := 0) N10.out.2.2.2.2.2.1 rfl
 have f_x1_0 := cell_at (o := 0) N10.out.2.2.2.2.2.2.2.1 rfl
 have f_x1_1 := cell_at (o := 1) N10.out.2.2.2.2.2.2.2.1 rfl
 have f_x2_0 := cell_at (o := 0) N10.out.2.2.2.2.2.2.2.2.2.1 rfl
 have f_x2_1 := cell_at (o := 1) N10.out.2.2.2.2.2.2.2.2.2.1 rfl
 have f_x2_2 := cell_at (o := 2) N10.out.2.2.2.2.2.2.2.2.2.1 rfl
 have f_x2_3 := cell_at (o := 3) N10.out.2.2.2.2.2.2.2.2.2.1 rfl
 have f_x2_4 := cell_at (o := 4) N10.out.2.2.2.2.2.2.2.2.2.1 rfl
 have f_x2_5 := cell_at (o := 5) N10.out.2.2.2.2.2.2.2.2.2.1 rfl
 have f_x2_6 := cell_at (o := 6) N10.out.2.2.2.2.2.2.2.2.2.1 rfl
 have f_x2_7 := cell_at (o := 7) N10.out.2.2.2.2.2.2.2.2.2.1 rfl
 go_upto_region 38 with fail
 have HST : Hid (∀ W, Below wh9.heap.size wh9 W → (Below w.heap.size w W ∧ W.heap[w.heap.size]? = some (.cells #[.slice a0_0 x0.tables.length c0_0] 24) ∧ W.heap[w.heap.size + 1]? = some (.cells #[.slice a1_0 x1.tables.length c1_0, .int .i64 x1.next] 27) ∧ W.heap[w.heap.size + 1 + 1]? = some (.cells #[.string ⟨x2.nm.toArray⟩, .string ⟨x2.tb.toArray⟩, .slice a2_2 x2.cs.length c2_2, .bool x2.ini, .bool x2.ins, .bool x2.del, .bool x2.mod, .slice a2_7 x2.wh.length c2_7] 31) ∧ Rd W (· < wc.heap.size) (dRowS R0) (.slice ra R0.length rc) ∧ W.heap[wx0.heap.size]? = some (.cells #[.slice (some ⟨p0_0, 0, none⟩) x0.tables.length x0.tables.length] 40) ∧ Own W ((dTableS x0.tables).mkd (1)) (fun c => u0 ≤ c ∧ c < wx0.heap.size) (.slice (some ⟨p0_0, 0, none⟩) x0.tables.length x0.tables.length) ∧ W.heap[wx1.heap.size]? = some (.cells #[.slice (some ⟨p1_0, 0, none⟩) x1.tables.length x1.tables.length, .int .i64 x1.next] 44) ∧ Own W ((dRowSS x1.tables).mkd (k0)) (fun c => u1 ≤ c ∧ c < wx1.heap.size) (.slice (some ⟨p1_0, 0, none⟩) x1.tables.length x1.tables.length) ∧ W.heap[wx2.heap.size]? = some (.cells #[.string ⟨x2.nm.toArray⟩, .string ⟨x2.tb.toArray⟩, .slice (some ⟨p2_2, 0, none⟩) x2.cs.length x2.cs.length, .bool x2.ini, .bool x2.ins, .bool x2.del, .bool x2.mod, .slice (some ⟨p2_7, 0, none⟩) x2.wh.length x2.wh.length] 48) ∧ Own W ((dStringS x2.cs).mkd (k1)) (Y2 2) (.slice (some ⟨p2_2, 0, none⟩) x2.cs.length x2.cs.length) ∧ Own W ((dCondS x2.wh).mkd (k1 + (dStringS x2.cs).wd)) (Y2 7) (.slice (some ⟨p2_7, 0, none⟩) x2.wh.length x2.wh.length) ∧ Own W ((dRowS R0).mkd 1) (fun c => ug ≤ c ∧ c < wg.heap.size) (.slice ga R0.length gc))) := fun W h => TGL.out _ _ N10.out h
 have CE : Hid (∀ W, (Below w.heap.size w W ∧ W.heap[w.heap.size]? = some (.cells #[.slice a0_0 x0.tables.length c0_0] 24) ∧ W.heap[w.heap.size + 1]? = some (.cells #[.slice a1_0 x1.tables.length c1_0, .int .i64 x1.next] 27) ∧ W.heap[w.heap.size + 1 + 1]? = some (.cells #[.string ⟨x2.nm.toArray⟩, .string ⟨x2.tb.toArray⟩, .slice a2_2 x2.cs.length c2_2, .bool x2.ini, .bool x2.ins, .bool x2.del, .bool x2.mod, .slice a2_7 x2.wh.length c2_7] 31) ∧ Rd W (· < wc.heap.size) (dRowS R0) (.slice ra R0.length rc) ∧ W.heap[wx0.heap.size]? = some (.cells #[.slice (some ⟨p0_0, 0, none⟩) x0.tables.length x0.tables.length] 40) ∧ Own W ((dTableS x0.tables).mkd (1)) (fun c => u0 ≤ c ∧ c < wx0.heap.size) (.slice (some ⟨p0_0, 0, none⟩) x0.tables.length x0.tables.length) ∧ W.heap[wx1.heap.size]? = some (.cells #[.slice (some ⟨p1_0, 0, none⟩) x1.tables.length x1.tables.length, .int .i64 x1.next] 44) ∧ Own W ((dRowSS x1.tables).mkd (k0)) (fun c => u1 ≤ c ∧ c < wx1.heap.size) (.slice (some ⟨p1_0, 0, none⟩) x1.tables.length x1.tables.length) ∧ W.heap[wx2.heap.size]? = some (.cells #[.string ⟨x2.nm.toArray⟩, .string ⟨x2.tb.toArray⟩, .slice (some ⟨p2_2, 0, none⟩) x2.cs.length x2.cs.length, .bool x2.ini, .bool x2.ins, .bool x2.del, .bool x2.mod, .slice (some ⟨p2_7, 0, none⟩) x2.wh.length x2.wh.length] 48) ∧ Own W ((dStringS x2.cs).mkd (k1)) (Y2 2) (.slice (some ⟨p2_2, 0, none⟩) x2.cs.length x2.cs.length) ∧ Own W ((dCondS x2.wh).mkd (k1 + (dStringS x2.cs).wd)) (Y2 7) (.slice (some ⟨p2_7, 0, none⟩) x2.wh.length x2.wh.length) ∧ Own W ((dRowS R0).mkd 1) (fun c => ug ≤ c ∧ c < wg.heap.size) (.slice ga R0.length gc)) → (W.cell? ⟨w.heap.size, 0, none⟩ = some (.slice a0_0 x0.tables.length c0_0) ∧ W.cell? ⟨w.heap.size + 1, 0, none⟩ = some (.slice a1_0 x1.tables.length c1_0) ∧ W.cell? ⟨w.heap.size + 1, 1, none⟩ = some (.int .i64 x1.next) ∧ W.cell? ⟨w.heap.size + 1 + 1, 0, none⟩ = some (.string ⟨x2.nm.toArray⟩) ∧ W.cell? ⟨w.heap.size + 1 + 1, 1, none⟩ = some (.string ⟨x2.tb.toArray⟩) ∧ W.cell? ⟨w.heap.size + 1 + 1, 2, none⟩ = some (.slice a2_2 x2.cs.length c2_2) ∧ W.cell? ⟨w.heap.size + 1 + 1, 3, none⟩ = some (.bool x2.ini) ∧ W.cell? ⟨w.heap.size + 1 + 1, 4, none⟩ = some (.bool x2.ins) ∧ W.cell? ⟨w.heap.size + 1 + 1, 5, none⟩ = some (.bool x2.del) ∧ W.cell? ⟨w.heap.size + 1 + 1, 6, none⟩ = some (.bool x2.mod) ∧ W.cell? ⟨w.heap.size + 1 + 1, 7, none⟩ = some (.slice a2_7 x2.wh.length c2_7))) := fun W h => ⟨cell_at (o := 0) h.2.1 rfl, cell_at (o := 0) h.2.2.1 rfl, cell_at (o := 1) h.2.2.1 rfl, cell_at (o := 0) h.2.2.2.1 rfl, cell_at (o := 1) h.2.2.2.1 rfl, cell_at (o := 2) h.2.2.2.1 rfl, cell_at (o := 3) h.2.2.2.1 rfl, cell_at (o := 4) h.2.2.2.1 rfl, cell_at (o := 5) h.2.2.2.1 rfl, cell_at (o := 6) h.2.2.2.1 rfl, cell_at (o := 7) h.2.2.2.1 rfl⟩
 have HSX : Hid (∀ W, (Below w.heap.size w W ∧ W.heap[w.heap.size]? = some (.cells #[.slice a0_0 x0.tables.length c0_0] 24) ∧ W.heap[w.heap.size + 1]? = some (.cells #[.slice a1_0 x1.tables.length c1_0, .int .i64 x1.next] 27) ∧ W.heap[w.heap.size + 1 + 1]? = some (.cells #[.string ⟨x2.nm.toArray⟩, .string ⟨x2.tb.toArray⟩, .slice a2_2 x2.cs.length c2_2, .bool x2.ini, .bool x2.ins, .bool x2.del, .bool x2.mod, .slice a2_7 x2.wh.length c2_7] 31) ∧ Rd W (· < wc.heap.size) (dRowS R0) (.slice ra R0.length rc) ∧ W.heap[wx0.heap.size]? = some (.cells #[.slice (some ⟨p0_0, 0, none⟩) x0.tables.length x0.tables.length] 40) ∧ Own W ((dTableS x0.tables).mkd (1)) (fun c => u0 ≤ c ∧ c < wx0.heap.size) (.slice (some ⟨p0_0, 0, none⟩) x0.tables.length x0.tables.length) ∧ W.heap[wx1.heap.size]? = some (.cells #[.slice (some ⟨p1_0, 0, none⟩) x1.tables.length x1.tables.length, .int .i64 x1.next] 44) ∧ Own W ((dRowSS x1.tables).mkd (k0)) (fun c => u1 ≤ c ∧ c < wx1.heap.size) (.slice (some ⟨p1_0, 0, none⟩) x1.tables.length x1.tables.length) ∧ W.heap[wx2.heap.size]? = some (.cells #[.string ⟨x2.nm.toArray⟩, .string ⟨x2.tb.toArray⟩, .slice (some ⟨p2_2, 0, none⟩) x2.cs.length x2.cs.length, .bool x2.ini, .bool x2.ins, .bool x2.del, .bool x2.mod, .slice (some ⟨p2_7, 0, none⟩) x2.wh.length x2.wh.length] 48) ∧ Own W ((dStringS x2.cs).mkd (k1)) (Y2 2) (.slice (some ⟨p2_2, 0, none⟩) x2.cs.length x2.cs.length) ∧ Own W ((dCondS x2.wh).mkd (k1 + (dStringS x2.cs).wd)) (Y2 7) (.slice (some ⟨p2_7, 0, none⟩) x2.wh.length x2.wh.length) ∧ Own W ((dRowS R0).mkd 1) (fun c => ug ≤ c ∧ c < wg.heap.size) (.slice ga R0.length gc)) → (Below w.heap.size w W ∧ W.heap[w.heap.size]? = some (.cells #[.slice a0_0 x0.tables.length c0_0] 24) ∧ W.heap[w.heap.size + 1]? = some (.cells #[.slice a1_0 x1.tables.length c1_0, .int .i64 x1.next] 27) ∧ W.heap[w.heap.size + 1 + 1]? = some (.cells #[.string ⟨x2.nm.toArray⟩, .string ⟨x2.tb.toArray⟩, .slice a2_2 x2.cs.length c2_2, .bool x2.ini, .bool x2.ins, .bool x2.del, .bool x2.mod, .slice a2_7 x2.wh.length c2_7] 31))) := fun W h => ⟨h.1, h.2.1, h.2.2.1, h.2.2.2.1⟩
 clear N10 f_arg0_0 f_arg1_0 f_arg1_1 f_arg2_0 f_arg2_1 f_arg2_2 f_arg2_3 f_arg2_4 f_arg2_5 f_arg2_6 f_arg2_7 f_x0_0 f_x1_0 f_x1_1 f_x2_0 f_x2_1 f_x2_2 f_x2_3 f_x2_4 f_x2_5 f_x2_6 f_x2_7
 go_cut [18, 19] from 115 to 124 (fun s0 s1 wx => ∃ (ya : Option Addr) (yc : Nat), s0 = .slice ya R0.length yc ∧ s1 = .int .i64 R1 ∧ Hid ((Below w.heap.size w wx ∧ wx.heap[w.heap.size]? = some (.cells #[.slice a0_0 x0.tables.length c0_0] 24) ∧ wx.heap[w.heap.size + 1]? = some (.cells #[.slice a1_0 x1.tables.length c1_0, .int .i64 x1.next] 27) ∧ wx.heap[w.heap.size + 1 + 1]? = some (.cells #[.string ⟨x2.nm.toArray⟩, .string ⟨x2.tb.toArray⟩, .slice a2_2 x2.cs.length c2_2, .bool x2.ini, .bool x2.ins, .bool x2.del, .bool x2.mod, .slice a2_7 x2.wh.length c2_7] 31) ∧ Rd wx (· < wc.heap.size) (dRowS R0) (.slice ra R0.length rc) ∧ wx.heap[wx0.heap.size]? = some (.cells #[.slice (some ⟨p0_0, 0, none⟩) x0.tables.length x0.tables.length] 40) ∧ Own wx ((dTableS x0.tables).mkd (1)) (fun c => u0 ≤ c ∧ c < wx0.heap.size) (.slice (some ⟨p0_0, 0, none⟩) x0.tables.length x0.tables.length) ∧ wx.heap[wx1.heap.size]? = some (.cells #[.slice (some ⟨p1_0, 0, none⟩) x1.tables.length x1.tables.length, .int .i64 x1.next] 44) ∧ Own wx ((dRowSS x1.tables).mkd (k0)) (fun c => u1 ≤ c ∧ c < wx1.heap.size) (.slice (some ⟨p1_0, 0, none⟩) x1.tables.length x1.tables.length) ∧ wx.heap[wx2.heap.size]? = some (.cells #[.string ⟨x2.nm.toArray⟩, .string ⟨x2.tb.toArray⟩, .slice (some ⟨p2_2, 0, none⟩) x2.cs.length x2.cs.length, .bool x2.ini, .bool x2.ins, .bool x2.del, .bool x2.mod, .slice (some ⟨p2_7, 0, none⟩) x2.wh.length x2.wh.length] 48) ∧ Own wx ((dStringS x2.cs).mkd (k1)) (Y2 2) (.slice (some ⟨p2_2, 0, none⟩) x2.cs.length x2.cs.length) ∧ Own wx ((dCondS x2.wh).mkd (k1 + (dStringS x2.cs).wd)) (Y2 7) (.slice (some ⟨p2_7, 0, none⟩) x2.wh.length x2.wh.length) ∧ Own wx ((dRowS R0).mkd 1) (fun c => ug ≤ c ∧ c < wg.heap.size) (.slice ga R0.length gc)) ∧ True ∧ Rd wx (fun _ => True) (dRowS R0) (.slice ya R0.length yc)))
 case first =>
  have BS : Hid (Below wh9.heap.size wh9 wh9) := Below.refl _ _
  refine wp_region_held_drew (S := (fun W => W.cell? ⟨w.heap.size, 0, none⟩ = some (.slice a0_0 x0.tables.length c0_0) ∧ W.cell? ⟨w.heap.size + 1, 0, none⟩ = some (.slice a1_0 x1.tables.length c1_0) ∧ W.cell? ⟨w.heap.size + 1, 1, none⟩ = some (.int .i64 x1.next) ∧ W.cell? ⟨w.heap.size + 1 + 1, 0, none⟩ = some (.string ⟨x2.nm.toArray⟩) ∧ W.cell? ⟨w.heap.size + 1 + 1, 1, none⟩ = some (.string ⟨x2.tb.toArray⟩) ∧ W.cell? ⟨w.heap.size + 1 + 1, 2, none⟩ = some (.slice a2_2 x2.cs.length c2_2) ∧ W.cell? ⟨w.heap.size + 1 + 1, 3, none⟩ = some (.bool x2.ini) ∧ W.cell? ⟨w.heap.size + 1 + 1, 4, none⟩ = some (.bool x2.ins) ∧ W.cell? ⟨w.heap.size + 1 + 1, 5, none⟩ = some (.bool x2.del) ∧ W.cell? ⟨w.heap.size + 1 + 1, 6, none⟩ = some (.bool x2.mod) ∧ W.cell? ⟨w.heap.size + 1 + 1, 7, none⟩ = some (.slice a2_7 x2.wh.length c2_7))) (by kernel_rfl) ?_ (fun hHeld => ?_)
  ·
   (first | exact CE.out _ (HST.out _ BS.out) | exact CE.out _ (HST.out _ BS.out.drew))
  refine tkB (i := 0) ?_
  refine tkB (i := 2) ?_
  refine tkB (i := 4) ?_
  refine tkR (i := 1) (fun K hK => ?_)
  go_simp
  go_at_call 8
  refine (TO0.out _ (by first | exact HSX.out _ (HST.out _ BS.out) | exact HSX.out _ (HST.out _ BS.out.drew))).mono ?_
  rintro e wt0 ⟨p0_0, rfl, ho, hB, -⟩
  have hb : Below wh9.heap.size wh9 wt0 := by first | exact hB | exact (Below.refl _ _).drew.trans hB
  have BS' : Hid (Below wh9.heap.size wh9 wt0) := BS.out.trans (hb.mono BS.out.size)
  clear BS
  have BS := BS'
  clear BS'
  have RC0_0 : Hid (∀ W, Below wt0.heap.size wt0 W → Rd W (fun _ => True) (dTableS x0.tables) (.slice (some ⟨p0_0, 0, none⟩) x0.tables.length x0.tables.length)) := fun W h => Rd.later ((Owns.one ho (j := 0) (by omega)).rd'.any) h
  have BC0 : Hid (Below wt0.heap.size wt0 wt0) := Below.refl _ _
  clear hb hB ho
  refine hK.out _ _ ?_ (fun hHeld => ?_)
  ·
   (first | exact CE.out _ (HST.out _ BS.out) | exact CE.out _ (HST.out _ BS.out.drew))
  clear hK K
  try simp only [Act.put, tkS]
  refine tkR (i := 3) (fun K hK => ?_)
  go_simp
  go_at_call 9
  refine (TO1.out _ (by first | exact HSX.out _ (HST.out _ BS.out) | exact HSX.out _ (HST.out _ BS.out.drew))).mono ?_
  rintro e wt1 ⟨p1_0, rfl, ho, hB, -⟩
  have hb : Below wt0.heap.size wt0 wt1 := by first | exact hB | exact (Below.refl _ _).drew.trans hB
  have BS' : Hid (Below wh9.heap.size wh9 wt1) := BS.out.trans (hb.mono BS.out.size)
  clear BS
  have BS := BS'
  clear BS'
  have BC0' : Hid (Below wt0.heap.size wt0 wt1) := BC0.out.trans (hb.mono BC0.out.size)
  clear BC0
  have BC0 := BC0'
  clear BC0'
  have RC1_0 : Hid (∀ W, Below wt1.heap.size wt1 W → Rd W (fun _ => True) (dRowSS x1.tables) (.slice (some ⟨p1_0, 0, none⟩) x1.tables.length x1.tables.length)) := fun W h => Rd.later ((Owns.one ho (j := 0) (by omega)).rd'.any) h
  have BC1 : Hid (Below wt1.heap.size wt1 wt1) := Below.refl _ _
  clear hb hB ho
  refine hK.out _ _ ?_ (fun hHeld => ?_)
  ·
   (first | exact CE.out _ (HST.out _ BS.out) | exact CE.out _ (HST.out _ BS.out.drew))
  clear hK K
  try simp only [Act.put, tkS]
  refine tkR (i := 5) (fun K hK => ?_)
  go_simp
  go_at_call 10
  refine (TO2.out _ (by first | exact HSX.out _ (HST.out _ BS.out) | exact HSX.out _ (HST.out _ BS.out.drew))).mono ?_
  rintro e wt2 ⟨p2_2, p2_7, rfl, ho, hB, -⟩
  have hb : Below wt1.heap.size wt1 wt2 := by first | exact hB | exact (Below.refl _ _).drew.trans hB
  have BS' : Hid (Below wh9.heap.size wh9 wt2) := BS.out.trans (hb.mono BS.out.size)
  clear BS
  have BS := BS'
  clear BS'
  have BC0' : Hid (Below wt0.heap.size wt0 wt2) := BC0.out.trans (hb.mono BC0.out.size)
  clear BC0
  have BC0 := BC0'
  clear BC0'
  have BC1' : Hid (Below wt1.heap.size wt1 wt2) := BC1.out.trans (hb.mono BC1.out.size)
  clear BC1
  have BC1 := BC1'
  clear BC1'
  have RC2_2 : Hid (∀ W, Below wt2.heap.size wt2 W → Rd W (fun _ => True) (dStringS x2.cs) (.slice (some ⟨p2_2, 0, none⟩) x2.cs.length x2.cs.length)) := fun W h => Rd.later ((Owns.one ho (j := 2) (by omega)).rd'.any) h
  have RC2_7 : Hid (∀ W, Below wt2.heap.size wt2 W → Rd W (fun _ => True) (dCondS x2.wh) (.slice (some ⟨p2_7, 0, none⟩) x2.wh.length x2.wh.length)) := fun W h => Rd.later ((Owns.one ho (j := 7) (by omega)).rd'.any) h
  have BC2 : Hid (Below wt2.heap.size wt2 wt2) := Below.refl _ _
  clear hb hB ho
  refine hK.out _ _ ?_ (fun hHeld => ?_)
  ·
   (first | exact CE.out _ (HST.out _ BS.out) | exact CE.out _ (HST.out _ BS.out.drew))
  clear hK K
  try simp only [Act.put, tkS]
  refine tkR (i := 6) (fun K hK => ?_)
  go_simp
  go_at_call 11
  refine (CI.out _ _ _ _ _ _ _ _ _ (by first | exact RC0_0.out _ BC0.out | exact RC0_0.out _ BC0.out.drew) (by first | exact RC1_0.out _ BC1.out | exact RC1_0.out _ BC1.out.drew) (by first | exact RC2_2.out _ BC2.out | exact RC2_2.out _ BC2.out.drew) (by first | exact RC2_7.out _ BC2.out | exact RC2_7.out _ BC2.out.drew) (by first | exact (HST.out _ BS.out).1 | exact (HST.out _ BS.out.drew).1)).mono ?_
  rintro e w2 ⟨ya, yc, rfl, hr2, hB⟩
  replace hr2 := Own.rd' hr2
  have hb : Below wt2.heap.size wt2 w2 := by first | exact hB | exact (Below.refl _ _).drew.trans hB
  have BS' : Hid (Below wh9.heap.size wh9 w2) := BS.out.trans (hb.mono BS.out.size)
  clear BS
  have BS := BS'
  clear BS'
  have BC0' : Hid (Below wt0.heap.size wt0 w2) := BC0.out.trans (hb.mono BC0.out.size)
  clear BC0
  have BC0 := BC0'
  clear BC0'
  have BC1' : Hid (Below wt1.heap.size wt1 w2) := BC1.out.trans (hb.mono BC1.out.size)
  clear BC1
  have BC1 := BC1'
  clear BC1'
  have BC2' : Hid (Below wt2.heap.size wt2 w2) := BC2.out.trans (hb.mono BC2.out.size)
  clear BC2
  have BC2 := BC2'
  clear BC2'
  have HR2 : Hid (Rd w2 (fun b => wt2.heap.size ≤ b ∧ b < w2.heap.size) (dRowS R0) (.slice ya R0.length yc)) := by first | exact hr2 | (simpa using hr2)
  clear hb hB hr2
  refine hK.out _ _ ?_ (fun hHeld => ?_)
  ·
   (first | exact CE.out _ (HST.out _ BS.out) | exact CE.out _ (HST.out _ BS.out.drew))
  clear hK K
  try simp only [Act.put, tkS]
  refine tkB (i := 7) ?_
  refine tkB (i := 8) ?_
  refine tkB (i := 9) ?_
  refine tkB (i := 10) ?_
  refine tkB (i := 11) ?_
  refine wpAnyH_done (by kernel_rfl) ?_ _
  have HF := Lib.hid (HST.out _ BS.out)
  go_wp2_with fail
  go_meet
  exact ⟨ya, yc, rfl, rfl, HF.out, trivial, HR2.out.mono (fun _ _ => trivial)⟩
 obtain ⟨ya, yc, rfl, rfl, HCUT⟩ := hcut
 have N11 := Lib.hid HCUT.out.1
 have BH := Lib.hid HCUT.out.2
 clear HCUT HST CE HSX
 have f_arg0_0 := cell_at (o := 0) N11.out.2.1 rfl
 have f_arg1_0 := cell_at (o := 0) N11.out.2.2.1 rfl
 have f_arg1_1 := cell_at (o := 1) N11.out.2.2.1 rfl
 have f_arg2_0 := cell_at (o := 0) N11.out.2.2.2.1 rfl
 have f_arg2_1 := cell_at (o := 1) N11.out.2.2.2.1 rfl
 have f_arg2_2 := cell_at (o := 2) N11.out.2.2.2.1 rfl
 have f_arg2_3 := cell_at (o := 3) N11.out.2.2.2.1 rfl
 have f_arg2_4 := cell_at (o := 4) N11.out.2.2.2.1 rfl
 have f_arg2_5 := cell_at (o := 5) N11.out.2.2.2.1 rfl
 have f_arg2_6 := cell_at (o := 6) N11.out.2.2.2.1 rfl
 have f_arg2_7 := cell_at (o := 7) N11.out.2.2.2.1 rfl
 have f_x0_0 := cell_at (o := 0) N11.out.2.2.2.2.2.1 rfl
 have f_x1_0 := cell_at (o := 0) N11.out.2.2.2.2.2.2.2.1 rfl
 have f_x1_1 := cell_at (o := 1) N11.out.2.2.2.2.2.2.2.1 rfl
 have f_x2_0 := cell_at (o := 0) N11.out.2.2.2.2.2.2.2.2.2.1 rfl
 have f_x2_1 := cell_at (o := 1) N11.out.2.2.2.2.2.2.2.2.2.1 rfl
 have f_x2_2 := cell_at (o := 2) N11.out.2.2.2.2.2.2.2.2.2.1 rfl
 have f_x2_3 := cell_at (o := 3) N11.out.2.2.2.2.2.2.2.2.2.1 rfl
 have f_x2_4 := cell_at (o := 4) N11.out.2.2.2.2.2.2.2.2.2.1 rfl
 have f_x2_5 := cell_at (o := 5) N11.out.2.2.2.2.2.2.2.2.2.1 rfl
 have f_x2_6 := cell_at (o := 6) N11.out.2.2.2.2.2.2.2.2.2.1 rfl
 have f_x2_7 := cell_at (o := 7) N11.out.2.2.2.2.2.2.2.2.2.1 rfl
 go_wp2_with fail
 refine (EQR.out _ _ _ _ _ BH.out.2 (Rd.any (N11.out.2.2.2.2.1))).mono ?_
 rintro e wv ⟨rfl, hB⟩
 have N12 := Lib.hid (TGL.out _ _ N11.out hB)
 clear f_arg0_0 f_arg1_0 f_arg1_1 f_arg2_0 f_arg2_1 f_arg2_2 f_arg2_3 f_arg2_4 f_arg2_5 f_arg2_6 f_arg2_7 f_x0_0 f_x1_0 f_x1_1 f_x2_0 f_x2_1 f_x2_2 f_x2_3 f_x2_4 f_x2_5 f_x2_6 f_x2_7
 clear hB N11
 have f_arg0_0 := cell_at (o := 0) N12.out.2.1 rfl
 have f_arg1_0 := cell_at (o := 0) N12.out.2.2.1 rfl
 have f_arg1_1 := cell_at (o := 1) N12.out.2.2.1 rfl
 have f_arg2_0 := cell_at (o := 0) N12.out.2.2.2.1 rfl
 have f_arg2_1 := cell_at (o := 1) N12.out.2.2.2.1 rfl
 have f_arg2_2 := cell_at (o := 2) N12.out.2.2.2.1 rfl
 have f_arg2_3 := cell_at (o := 3) N12.out.2.2.2.1 rfl
 have f_arg2_4 := cell_at (o := 4) N12.out.2.2.2.1 rfl
 have f_arg2_5 := cell_at (o := 5) N12.out.2.2.2.1 rfl
 have f_arg2_6 := cell_at (o := 6) N12.out.2.2.2.1 rfl
 have f_arg2_7 := cell_at (o := 7) N12.out.2.2.2.1 rfl
 have f_x0_0 := cell_at (o := 0) N12.out.2.2.2.2.2.1 rfl
 have f_x1_0 := cell_at (o := 0) N12.out.2.2.2.2.2.2.2.1 rfl
 have f_x1_1 := cell_at (o := 1) N12.out.2.2.2.2.2.2.2.1 rfl
 have f_x2_0 := cell_at (o := 0) N12.out.2.2.2.2.2.2.2.2.2.1 rfl
 have f_x2_1 := cell_at (o := 1) N12.out.2.2.2.2.2.2.2.2.2.1 rfl
 have f_x2_2 := cell_at (o := 2) N12.out.2.2.2.2.2.2.2.2.2.1 rfl
 have f_x2_3 := cell_at (o := 3) N12.out.2.2.2.2.2.2.2.2.2.1 rfl
 have f_x2_4 := cell_at (o := 4) N12.out.2.2.2.2.2.2.2.2.2.1 rfl
 have f_x2_5 := cell_at (o := 5) N12.out.2.2.2.2.2.2.2.2.2.1 rfl
 have f_x2_6 := cell_at (o := 6) N12.out.2.2.2.2.2.2.2.2.2.1 rfl
 have f_x2_7 := cell_at (o := 7) N12.out.2.2.2.2.2.2.2.2.2.1 rfl
 go_wp2_with fail
 refine (HD.out _ (Rd.any (Own.rd' (N12.out.2.2.2.2.2.2.2.2.2.2.2.2)))).mono ?_
 rintro e wh12 ⟨rfl, hB⟩
 have N13 := Lib.hid (TGL.out _ _ N12.out hB)
 clear f_arg0_0 f_arg1_0 f_arg1_1 f_arg2_0 f_arg2_1 f_arg2_2 f_arg2_3 f_arg2_4 f_arg2_5 f_arg2_6 f_arg2_7 f_x0_0 f_x1_0 f_x1_1 f_x2_0 f_x2_1 f_x2_2 f_x2_3 f_x2_4 f_x2_5 f_x2_6 f_x2_7
 clear hB N12
 have f_arg0_0 := cell_at (o := 0) N13.out.2.1 rfl
 have f_arg1_0 := cell_at (o := 0) N13.out.2.2.1 rfl
 have f_arg1_1 := cell_at (o := 1) N13.out.2.2.1 rfl
 have f_arg2_0 := cell_at (o := 0) N13.out.2.2.2.1 rfl
 have f_arg2_1 := cell_at (o := 1) N13.out.2.2.2.1 rfl
 have f_arg2_2 := cell_at (o := 2) N13.out.2.2.2.1 rfl
 have f_arg2_3 := cell_at (o := 3) N13.out.2.2.2.1 rfl
 have f_arg2_4 := cell_at (o := 4) N13.out.2.2.2.1 rfl
 have f_arg2_5 := cell_at (o := 5) N13.out.2.2.2.1 rfl
 have f_arg2_6 := cell_at (o := 6) N13.out.2.2.2.1 rfl
 have f_arg2_7 := cell_at (o := 7) N13.out.2.2.2.1 rfl
 have f_x0_0 := cell_at (o := 0) N13.out.2.2.2.2.2.1 rfl
 have f_x1_0 := cell_at (o := 0) N13.out.2.2.2.2.2.2.2.1 rfl
 have f_x1_1 := cell_at (o := 1) N13.out.2.2.2.2.2.2.2.1 rfl
 have f_x2_0 := cell_at (o := 0) N13.out.2.2.2.2.2.2.2.2.2.1 rfl
 have f_x2_1 := cell_at (o := 1) N13.out.2.2.2.2.2.2.2.2.2.1 rfl
 have f_x2_2 := cell_at (o := 2) N13.out.2.2.2.2.2.2.2.2.2.1 rfl
 have f_x2_3 := cell_at (o := 3) N13.out.2.2.2.2.2.2.2.2.2.1 rfl
 have f_x2_4 := cell_at (o := 4) N13.out.2.2.2.2.2.2.2.2.2.1 rfl
 have f_x2_5 := cell_at (o := 5) N13.out.2.2.2.2.2.2.2.2.2.1 rfl
 have f_x2_6 := cell_at (o := 6) N13.out.2.2.2.2.2.2.2.2.2.1 rfl
 have f_x2_7 := cell_at (o := 7) N13.out.2.2.2.2.2.2.2.2.2.1 rfl
 go_wp2_with fail
 go_ret
 exact ⟨rfl, N13.out.1⟩
end Go.Proofs.YtlddhbamcndggaaGreatDoor
