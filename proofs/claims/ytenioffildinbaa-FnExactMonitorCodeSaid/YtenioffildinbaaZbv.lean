import Derived.Test.YtenioffildinbaaZbu
import Derived.Test.YtenioffildinbaaZai
import Derived.Test.YtenioffildinbaaZbb
import Derived.Deep.RegionHeld3
import Derived.Deep.CutRange
import Derived.Test.YtenioffildinbaaZTk
namespace Go.Proofs.Ytenioffildinbaa
open Go.RowKit
set_option linter.unusedSimpArgs false
set_option maxRecDepth 100000 in
set_option maxHeartbeats 12800000 in
theorem lawMonitorCode (x0 : ScV) (x1 : MoV) (a0_0 : Option Addr) (c0_0 : Nat) (a1_2 : Option Addr) (c1_2 : Nat) (a1_7 : Option Addr) (c1_7 : Nat) (w : World) (l0_0 : (dTableS x0.tables).le maxLen) (l1_2 : (dStringS x1.cs).le maxLen) (l1_7 : (dCondS x1.wh).le maxLen) (l1_0 : x1.nm.length ≤ maxLen) (l1_1 : x1.tb.length ≤ maxLen) (r0_0 : Rd w (· < w.heap.size) (dTableS x0.tables) (.slice a0_0 x0.tables.length c0_0)) (r1_2 : Rd w (· < w.heap.size) (dStringS x1.cs) (.slice a1_2 x1.cs.length c1_2)) (r1_7 : Rd w (· < w.heap.size) (dCondS x1.wh) (.slice a1_7 x1.wh.length c1_7)) :
    Calls Try.prog 3 #[.agg #[.slice a0_0 x0.tables.length c0_0], .agg #[.string ⟨x1.nm.toArray⟩, .string ⟨x1.tb.toArray⟩, .slice a1_2 x1.cs.length c1_2, .bool x1.ini, .bool x1.ins, .bool x1.del, .bool x1.mod, .slice a1_7 x1.wh.length c1_7]] w fun e w' => e = .returned (.bool true) ∧ Below w.heap.size w w' := by
  have HL0_0 := Lib.hid l0_0
  have HO0 : Hid (∀ j, j < 1 → (dSchema x0 j).le maxLen) := fun j hj => by
    obtain rfl : j = 0 := by omega
    exact l0_0
  have RA0_0 : Hid (∀ W, Below w.heap.size w W → Rd W (· < w.heap.size) (dTableS x0.tables) (.slice a0_0 x0.tables.length c0_0)) := fun W h => Rd.same (fun b hb => h.block b hb) (fun _ h => h) _ _ r0_0
  have HL1_2 := Lib.hid l1_2
  have HL1_7 := Lib.hid l1_7
  have HO1 : Hid (∀ j, j < 8 → (dMonitor x1 j).le maxLen) := fun j hj => by
    rcases (by omega : j = 0 ∨ j = 1 ∨ j = 2 ∨ j = 3 ∨ j = 4 ∨ j = 5 ∨ j = 6 ∨ j = 7) with rfl | rfl | rfl | rfl | rfl | rfl | rfl | rfl
    · exact l1_0
    · exact l1_1
    · exact l1_2
    · exact trivial
    · exact trivial
    · exact trivial
    · exact trivial
    · exact l1_7
  have RA1_2 : Hid (∀ W, Below w.heap.size w W → Rd W (· < w.heap.size) (dStringS x1.cs) (.slice a1_2 x1.cs.length c1_2)) := fun W h => Rd.same (fun b hb => h.block b hb) (fun _ h => h) _ _ r1_2
  have RA1_7 : Hid (∀ W, Below w.heap.size w W → Rd W (· < w.heap.size) (dCondS x1.wh) (.slice a1_7 x1.wh.length c1_7)) := fun W h => Rd.same (fun b hb => h.block b hb) (fun _ h => h) _ _ r1_7
  have ALAT : Hid (∀ W W', (Below w.heap.size w W ∧ W.heap[w.heap.size]? = some (.cells #[.slice a0_0 x0.tables.length c0_0] 24) ∧ W.heap[w.heap.size + 1]? = some (.cells #[.string ⟨x1.nm.toArray⟩, .string ⟨x1.tb.toArray⟩, .slice a1_2 x1.cs.length c1_2, .bool x1.ini, .bool x1.ins, .bool x1.del, .bool x1.mod, .slice a1_7 x1.wh.length c1_7] 28)) → Below W.heap.size W W' → (Below w.heap.size w W' ∧ W'.heap[w.heap.size]? = some (.cells #[.slice a0_0 x0.tables.length c0_0] 24) ∧ W'.heap[w.heap.size + 1]? = some (.cells #[.string ⟨x1.nm.toArray⟩, .string ⟨x1.tb.toArray⟩, .slice a1_2 x1.cs.length c1_2, .bool x1.ini, .bool x1.ins, .bool x1.del, .bool x1.mod, .slice a1_7 x1.wh.length c1_7] 28))) := fun W W' h hB => ⟨h.1.trans (hB.mono h.1.size), heap_keptD h.2.1 hB, heap_keptD h.2.2 hB⟩
  have A0 : Hid (Below w.heap.size w ((w.alloc (.cells #[.slice a0_0 x0.tables.length c0_0] 24)).alloc (.cells #[.string ⟨x1.nm.toArray⟩, .string ⟨x1.tb.toArray⟩, .slice a1_2 x1.cs.length c1_2, .bool x1.ini, .bool x1.ins, .bool x1.del, .bool x1.mod, .slice a1_7 x1.wh.length c1_7] 28)) ∧ ((w.alloc (.cells #[.slice a0_0 x0.tables.length c0_0] 24)).alloc (.cells #[.string ⟨x1.nm.toArray⟩, .string ⟨x1.tb.toArray⟩, .slice a1_2 x1.cs.length c1_2, .bool x1.ini, .bool x1.ins, .bool x1.del, .bool x1.mod, .slice a1_7 x1.wh.length c1_7] 28)).heap[w.heap.size]? = some (.cells #[.slice a0_0 x0.tables.length c0_0] 24) ∧ ((w.alloc (.cells #[.slice a0_0 x0.tables.length c0_0] 24)).alloc (.cells #[.string ⟨x1.nm.toArray⟩, .string ⟨x1.tb.toArray⟩, .slice a1_2 x1.cs.length c1_2, .bool x1.ini, .bool x1.ins, .bool x1.del, .bool x1.mod, .slice a1_7 x1.wh.length c1_7] 28)).heap[w.heap.size + 1]? = some (.cells #[.string ⟨x1.nm.toArray⟩, .string ⟨x1.tb.toArray⟩, .slice a1_2 x1.cs.length c1_2, .bool x1.ini, .bool x1.ins, .bool x1.del, .bool x1.mod, .slice a1_7 x1.wh.length c1_7] 28)) := by
    refine ⟨(below_allocD _ _).trans ((below_allocD _ _).mono (by simp)), heap_keptD (heap_newD _ _) (below_allocD _ _), ?_⟩
    have h := heap_newD (w.alloc (.cells #[.slice a0_0 x0.tables.length c0_0] 24)) (.cells #[.string ⟨x1.nm.toArray⟩, .string ⟨x1.tb.toArray⟩, .slice a1_2 x1.cs.length c1_2, .bool x1.ini, .bool x1.ins, .bool x1.del, .bool x1.mod, .slice a1_7 x1.wh.length c1_7] 28)
    rw [size_allocD] at h
    exact h
  clear l0_0 r0_0 l1_2 r1_2 l1_7 r1_7
  have x0_0 := cell_at (o := 0) A0.out.2.1 rfl
  have x1_0 := cell_at (o := 0) A0.out.2.2 rfl
  have x1_1 := cell_at (o := 1) A0.out.2.2 rfl
  have x1_2 := cell_at (o := 2) A0.out.2.2 rfl
  have x1_3 := cell_at (o := 3) A0.out.2.2 rfl
  have x1_4 := cell_at (o := 4) A0.out.2.2 rfl
  have x1_5 := cell_at (o := 5) A0.out.2.2 rfl
  have x1_6 := cell_at (o := 6) A0.out.2.2 rfl
  have x1_7 := cell_at (o := 7) A0.out.2.2 rfl
  go_enter Try.func3, Try.ntmps3
  go_wp2_with fail
  have bl : Hid ((0 : Int) ≤ 1048576 ∧ (1048576 : Int) ≤ 1048576) := by show _ ∧ _; omega
  refine (szDSchema x0 a0_0 c0_0 1048576 _ _ bl.out.1 bl.out.2 HO0.out (RA0_0.out _ A0.out.1)).mono ?_
  rintro e ws0 ⟨rfl, hB⟩
  have AS0 := Lib.hid (ALAT.out _ _ A0.out hB)
  clear hB A0 x0_0 x1_0 x1_1 x1_2 x1_3 x1_4 x1_5 x1_6 x1_7
  have x0_0 := cell_at (o := 0) AS0.out.2.1 rfl
  have x1_0 := cell_at (o := 0) AS0.out.2.2 rfl
  have x1_1 := cell_at (o := 1) AS0.out.2.2 rfl
  have x1_2 := cell_at (o := 2) AS0.out.2.2 rfl
  have x1_3 := cell_at (o := 3) AS0.out.2.2 rfl
  have x1_4 := cell_at (o := 4) AS0.out.2.2 rfl
  have x1_5 := cell_at (o := 5) AS0.out.2.2 rfl
  have x1_6 := cell_at (o := 6) AS0.out.2.2 rfl
  have x1_7 := cell_at (o := 7) AS0.out.2.2 rfl
  by_cases hz0 : (1048576 : Int) - (szT 1 (dSchema x0) : Int) < 0
  case pos =>
    rw [less_no hz0]
    go_wp2_with fail
    go_ret
    exact ⟨rfl, AS0.out.1⟩
  rw [less_yes (by omega)]
  obtain ⟨L0, hL0⟩ : ∃ L0 : Int, L0 = 1048576 - (szT 1 (dSchema x0) : Int) := ⟨_, rfl⟩
  rw [← hL0]
  have dL0 : decide (L0 < 0) = false := decide_eq_false (by omega)
  have HZ0 : Hid (szT 1 (dSchema x0) ≤ 1048576) := by have := bl.out; show _ ≤ _; omega
  have b2 : Hid (0 ≤ L0 ∧ L0 ≤ 1048576) := by have := bl.out; show _ ∧ _; omega
  clear hz0 hL0 bl
  have bl := b2
  clear b2
  go_wp2_with fail
  refine (szDMonitor x1 a1_2 c1_2 a1_7 c1_7 L0 _ _ bl.out.1 bl.out.2 HO1.out (RA1_2.out _ AS0.out.1) (RA1_7.out _ AS0.out.1)).mono ?_
  rintro e ws1 ⟨rfl, hB⟩
  have AS1 := Lib.hid (ALAT.out _ _ AS0.out hB)
  clear hB AS0 x0_0 x1_0 x1_1 x1_2 x1_3 x1_4 x1_5 x1_6 x1_7
  have x0_0 := cell_at (o := 0) AS1.out.2.1 rfl
  have x1_0 := cell_at (o := 0) AS1.out.2.2 rfl
  have x1_1 := cell_at (o := 1) AS1.out.2.2 rfl
  have x1_2 := cell_at (o := 2) AS1.out.2.2 rfl
  have x1_3 := cell_at (o := 3) AS1.out.2.2 rfl
  have x1_4 := cell_at (o := 4) AS1.out.2.2 rfl
  have x1_5 := cell_at (o := 5) AS1.out.2.2 rfl
  have x1_6 := cell_at (o := 6) AS1.out.2.2 rfl
  have x1_7 := cell_at (o := 7) AS1.out.2.2 rfl
  by_cases hz1 : L0 - (szT 8 (dMonitor x1) : Int) < 0
  case pos =>
    rw [less_no hz1]
    go_wp2_with fail
    go_ret
    exact ⟨rfl, AS1.out.1⟩
  rw [less_yes (by omega)]
  obtain ⟨L1, hL1⟩ : ∃ L1 : Int, L1 = L0 - (szT 8 (dMonitor x1) : Int) := ⟨_, rfl⟩
  rw [← hL1]
  have dL1 : decide (L1 < 0) = false := decide_eq_false (by omega)
  have HZ1 : Hid (szT 8 (dMonitor x1) ≤ 1048576) := by have := bl.out; show _ ≤ _; omega
  have b2 : Hid (0 ≤ L1 ∧ L1 ≤ 1048576) := by have := bl.out; show _ ∧ _; omega
  clear hz1 hL1 bl
  have bl := b2
  clear b2
  go_wp2_with fail
  have HK0 : Hid (∀ j, j < 1 → (dSchema x0 j).le 1048576) := fun j hj => D.le_of_sz _ (HO0.out j hj) (Nat.le_trans (sumN_le (g := fun j => (dSchema x0 j).sz) hj) HZ0.out)
  have HK1 : Hid (∀ j, j < 8 → (dMonitor x1 j).le 1048576) := fun j hj => D.le_of_sz _ (HO1.out j hj) (Nat.le_trans (sumN_le (g := fun j => (dMonitor x1 j).sz) hj) HZ1.out)
  have TO0 : Hid (∀ W, (Below w.heap.size w W ∧ W.heap[w.heap.size]? = some (.cells #[.slice a0_0 x0.tables.length c0_0] 24) ∧ W.heap[w.heap.size + 1]? = some (.cells #[.string ⟨x1.nm.toArray⟩, .string ⟨x1.tb.toArray⟩, .slice a1_2 x1.cs.length c1_2, .bool x1.ini, .bool x1.ins, .bool x1.del, .bool x1.mod, .slice a1_7 x1.wh.length c1_7] 28)) → Calls Try.prog 8 #[.agg #[.slice a0_0 x0.tables.length c0_0]] W fun e w' => ∃ p0 : Nat, e = .returned (.agg #[.slice (some ⟨p0, 0, none⟩) x0.tables.length x0.tables.length]) ∧ Owns w' 1 (dSchema x0) (vat [.slice (some ⟨p0, 0, none⟩) x0.tables.length x0.tables.length]) (fun c => W.heap.size ≤ c ∧ c < w'.heap.size) ∧ Below W.heap.size W w' ∧ (Below w.heap.size w w' ∧ w'.heap[w.heap.size]? = some (.cells #[.slice a0_0 x0.tables.length c0_0] 24) ∧ w'.heap[w.heap.size + 1]? = some (.cells #[.string ⟨x1.nm.toArray⟩, .string ⟨x1.tb.toArray⟩, .slice a1_2 x1.cs.length c1_2, .bool x1.ini, .bool x1.ins, .bool x1.del, .bool x1.mod, .slice a1_7 x1.wh.length c1_7] 28))) := fun W h => (toDSchema x0 a0_0 c0_0 _ W HK0.out (RA0_0.out W h.1)).mono (fun e w' ⟨p0, he, ho, hB⟩ => ⟨p0, he, ho, hB, ALAT.out _ _ h hB⟩)
  have TO1 : Hid (∀ W, (Below w.heap.size w W ∧ W.heap[w.heap.size]? = some (.cells #[.slice a0_0 x0.tables.length c0_0] 24) ∧ W.heap[w.heap.size + 1]? = some (.cells #[.string ⟨x1.nm.toArray⟩, .string ⟨x1.tb.toArray⟩, .slice a1_2 x1.cs.length c1_2, .bool x1.ini, .bool x1.ins, .bool x1.del, .bool x1.mod, .slice a1_7 x1.wh.length c1_7] 28)) → Calls Try.prog 9 #[.agg #[.string ⟨x1.nm.toArray⟩, .string ⟨x1.tb.toArray⟩, .slice a1_2 x1.cs.length c1_2, .bool x1.ini, .bool x1.ins, .bool x1.del, .bool x1.mod, .slice a1_7 x1.wh.length c1_7]] W fun e w' => ∃ p2 : Nat, ∃ p7 : Nat, e = .returned (.agg #[.string ⟨x1.nm.toArray⟩, .string ⟨x1.tb.toArray⟩, .slice (some ⟨p2, 0, none⟩) x1.cs.length x1.cs.length, .bool x1.ini, .bool x1.ins, .bool x1.del, .bool x1.mod, .slice (some ⟨p7, 0, none⟩) x1.wh.length x1.wh.length]) ∧ Owns w' 8 (dMonitor x1) (vat [.string ⟨x1.nm.toArray⟩, .string ⟨x1.tb.toArray⟩, .slice (some ⟨p2, 0, none⟩) x1.cs.length x1.cs.length, .bool x1.ini, .bool x1.ins, .bool x1.del, .bool x1.mod, .slice (some ⟨p7, 0, none⟩) x1.wh.length x1.wh.length]) (fun c => W.heap.size ≤ c ∧ c < w'.heap.size) ∧ Below W.heap.size W w' ∧ (Below w.heap.size w w' ∧ w'.heap[w.heap.size]? = some (.cells #[.slice a0_0 x0.tables.length c0_0] 24) ∧ w'.heap[w.heap.size + 1]? = some (.cells #[.string ⟨x1.nm.toArray⟩, .string ⟨x1.tb.toArray⟩, .slice a1_2 x1.cs.length c1_2, .bool x1.ini, .bool x1.ins, .bool x1.del, .bool x1.mod, .slice a1_7 x1.wh.length c1_7] 28))) := fun W h => (toDMonitor x1 a1_2 c1_2 a1_7 c1_7 _ W HK1.out (RA1_2.out W h.1) (RA1_7.out W h.1)).mono (fun e w' ⟨p2, p7, he, ho, hB⟩ => ⟨p2, p7, he, ho, hB, ALAT.out _ _ h hB⟩)
  have CS : Hid (∀ (W : World) (b0_0 : Option Addr) (e0_0 : Nat) (b1_2 : Option Addr) (e1_2 : Nat) (b1_7 : Option Addr) (e1_7 : Nat), Rd W (fun _ => True) (dTableS x0.tables) (.slice b0_0 x0.tables.length e0_0) → Rd W (fun _ => True) (dStringS x1.cs) (.slice b1_2 x1.cs.length e1_2) → Rd W (fun _ => True) (dCondS x1.wh) (.slice b1_7 x1.wh.length e1_7) → Calls Try.prog 7 #[.agg #[.slice b0_0 x0.tables.length e0_0], .agg #[.string ⟨x1.nm.toArray⟩, .string ⟨x1.tb.toArray⟩, .slice b1_2 x1.cs.length e1_2, .bool x1.ini, .bool x1.ins, .bool x1.del, .bool x1.mod, .slice b1_7 x1.wh.length e1_7]] W fun e w' => e = .returned (.tuple #[.int .i64 ((mcR x0.tables x1).1), .int .i64 ((mcR x0.tables x1).2)]) ∧ Below W.heap.size W w') := fun W b0_0 e0_0 b1_2 e1_2 b1_7 e1_7 h0_0 h1_2 h1_7 => mcS x0.tables b0_0 e0_0 _ x1 b1_2 e1_2 b1_7 e1_7 _ W HL0_0.out (HO1.out 0 (by omega)) (HO1.out 1 (by omega)) HL1_2.out HL1_7.out h0_0 h1_2 h1_7
  have CI : Hid (∀ (W : World) (b0_0 : Option Addr) (e0_0 : Nat) (b1_2 : Option Addr) (e1_2 : Nat) (b1_7 : Option Addr) (e1_7 : Nat), Rd W (fun _ => True) (dTableS x0.tables) (.slice b0_0 x0.tables.length e0_0) → Rd W (fun _ => True) (dStringS x1.cs) (.slice b1_2 x1.cs.length e1_2) → Rd W (fun _ => True) (dCondS x1.wh) (.slice b1_7 x1.wh.length e1_7) → Calls Try.prog 10 #[.agg #[.slice b0_0 x0.tables.length e0_0], .agg #[.string ⟨x1.nm.toArray⟩, .string ⟨x1.tb.toArray⟩, .slice b1_2 x1.cs.length e1_2, .bool x1.ini, .bool x1.ins, .bool x1.del, .bool x1.mod, .slice b1_7 x1.wh.length e1_7]] W fun e w' => e = .returned (.tuple #[.int .i64 ((mcR x0.tables x1).1), .int .i64 ((mcR x0.tables x1).2)]) ∧ Below W.heap.size W w') := fun W b0_0 e0_0 b1_2 e1_2 b1_7 e1_7 h0_0 h1_2 h1_7 => mcI x0.tables b0_0 e0_0 _ x1 b1_2 e1_2 b1_7 e1_7 _ W HL0_0.out (HO1.out 0 (by omega)) (HO1.out 1 (by omega)) HL1_2.out HL1_7.out h0_0 h1_2 h1_7
  have nq0 := bne_self_eq_false ((mcR x0.tables x1).1)
  generalize ((mcR x0.tables x1).1) = R0 at *
  have nq1 := bne_self_eq_false ((mcR x0.tables x1).2)
  generalize ((mcR x0.tables x1).2) = R1 at *
  have EQ0 : Hid (∀ (W : World) (b0 : Option Addr) (e0 : Nat) (f0 : Option Addr) (g0 : Nat), Rd W (fun _ => True) (dTableS x0.tables) (.slice b0 x0.tables.length e0) → Rd W (fun _ => True) (dTableS x0.tables) (.slice f0 x0.tables.length g0) → Calls Try.prog 11 #[.agg #[.slice b0 x0.tables.length e0], .agg #[.slice f0 x0.tables.length g0]] W fun e w' => e = .returned (.bool true) ∧ Below W.heap.size W w') := fun W b0 e0 f0 g0 h0 i0 => eqDSchema x0 b0 e0 f0 g0 _ _ W HO0.out h0 i0
  have EQ1 : Hid (∀ (W : World) (b2 : Option Addr) (e2 : Nat) (f2 : Option Addr) (g2 : Nat) (b7 : Option Addr) (e7 : Nat) (f7 : Option Addr) (g7 : Nat), Rd W (fun _ => True) (dStringS x1.cs) (.slice b2 x1.cs.length e2) → Rd W (fun _ => True) (dCondS x1.wh) (.slice b7 x1.wh.length e7) → Rd W (fun _ => True) (dStringS x1.cs) (.slice f2 x1.cs.length g2) → Rd W (fun _ => True) (dCondS x1.wh) (.slice f7 x1.wh.length g7) → Calls Try.prog 12 #[.agg #[.string ⟨x1.nm.toArray⟩, .string ⟨x1.tb.toArray⟩, .slice b2 x1.cs.length e2, .bool x1.ini, .bool x1.ins, .bool x1.del, .bool x1.mod, .slice b7 x1.wh.length e7], .agg #[.string ⟨x1.nm.toArray⟩, .string ⟨x1.tb.toArray⟩, .slice f2 x1.cs.length g2, .bool x1.ini, .bool x1.ins, .bool x1.del, .bool x1.mod, .slice f7 x1.wh.length g7]] W fun e w' => e = .returned (.bool true) ∧ Below W.heap.size W w') := fun W b2 e2 f2 g2 b7 e7 f7 g7 h2 h7 i2 i7 => eqDMonitor x1 b2 e2 b7 e7 f2 g2 f7 g7 _ _ W HO1.out h2 h7 i2 i7
  have CE : Hid (∀ W, (Below w.heap.size w W ∧ W.heap[w.heap.size]? = some (.cells #[.slice a0_0 x0.tables.length c0_0] 24) ∧ W.heap[w.heap.size + 1]? = some (.cells #[.string ⟨x1.nm.toArray⟩, .string ⟨x1.tb.toArray⟩, .slice a1_2 x1.cs.length c1_2, .bool x1.ini, .bool x1.ins, .bool x1.del, .bool x1.mod, .slice a1_7 x1.wh.length c1_7] 28)) → (W.cell? ⟨w.heap.size, 0, none⟩ = some (.slice a0_0 x0.tables.length c0_0) ∧ W.cell? ⟨w.heap.size + 1, 0, none⟩ = some (.string ⟨x1.nm.toArray⟩) ∧ W.cell? ⟨w.heap.size + 1, 1, none⟩ = some (.string ⟨x1.tb.toArray⟩) ∧ W.cell? ⟨w.heap.size + 1, 2, none⟩ = some (.slice a1_2 x1.cs.length c1_2) ∧ W.cell? ⟨w.heap.size + 1, 3, none⟩ = some (.bool x1.ini) ∧ W.cell? ⟨w.heap.size + 1, 4, none⟩ = some (.bool x1.ins) ∧ W.cell? ⟨w.heap.size + 1, 5, none⟩ = some (.bool x1.del) ∧ W.cell? ⟨w.heap.size + 1, 6, none⟩ = some (.bool x1.mod) ∧ W.cell? ⟨w.heap.size + 1, 7, none⟩ = some (.slice a1_7 x1.wh.length c1_7))) := fun W h => ⟨cell_at (o := 0) h.2.1 rfl, cell_at (o := 0) h.2.2 rfl, cell_at (o := 1) h.2.2 rfl, cell_at (o := 2) h.2.2 rfl, cell_at (o := 3) h.2.2 rfl, cell_at (o := 4) h.2.2 rfl, cell_at (o := 5) h.2.2 rfl, cell_at (o := 6) h.2.2 rfl, cell_at (o := 7) h.2.2 rfl⟩
  have hx := AS1.out
  refine wp_region_held_drew (S := (fun W => W.cell? ⟨w.heap.size, 0, none⟩ = some (.slice a0_0 x0.tables.length c0_0) ∧ W.cell? ⟨w.heap.size + 1, 0, none⟩ = some (.string ⟨x1.nm.toArray⟩) ∧ W.cell? ⟨w.heap.size + 1, 1, none⟩ = some (.string ⟨x1.tb.toArray⟩) ∧ W.cell? ⟨w.heap.size + 1, 2, none⟩ = some (.slice a1_2 x1.cs.length c1_2) ∧ W.cell? ⟨w.heap.size + 1, 3, none⟩ = some (.bool x1.ini) ∧ W.cell? ⟨w.heap.size + 1, 4, none⟩ = some (.bool x1.ins) ∧ W.cell? ⟨w.heap.size + 1, 5, none⟩ = some (.bool x1.del) ∧ W.cell? ⟨w.heap.size + 1, 6, none⟩ = some (.bool x1.mod) ∧ W.cell? ⟨w.heap.size + 1, 7, none⟩ = some (.slice a1_7 x1.wh.length c1_7))) (by kernel_rfl) ?_ (fun hHeld => ?_)
  · (first | exact CE.out _ hx | exact CE.out _ (ALAT.out _ _ hx (Below.refl _ _).drew))
  refine wpAnyH_take (i := 0) (v := ?_) rfl (by kernel_rfl) (by kernel_rfl) (by kernel_rfl) (fun _ _ _ h => h) (Or.inl ⟨by kernel_rfl, ?_⟩) (by assumption) ?_
  rotate_left
  · (intro wS hSw; (try dsimp only at hSw); go_simp <;> with_reducible rfl)
  try simp only [Act.put, tkS]
  refine wpAnyH_take (i := 2) (v := ?_) rfl (by kernel_rfl) (by kernel_rfl) (by kernel_rfl) (fun _ _ _ h => h) (Or.inl ⟨by kernel_rfl, ?_⟩) (by assumption) ?_
  rotate_left
  · (intro wS hSw; (try dsimp only at hSw); go_simp <;> with_reducible rfl)
  try simp only [Act.put, tkS]
  refine wpAnyH_ready (rs := [1]) (by kernel_rfl) (by simp) (AllReadyH.cons rfl (fun K hK => ?_) AllReadyH.nil)
  go_simp
  (go_at_call 8; refine (TO0.out _ (by first | exact hx | exact ALAT.out _ _ hx (Below.refl _ _).drew)).mono ?_; rintro e wt0 ⟨p0_0, rfl, ho0, hB0, hA0⟩; clear hx; have hx := hA0; clear hA0; have RC0_0 : Hid (Rd _ (fun _ => True) (dTableS x0.tables) (.slice (some ⟨p0_0, 0, none⟩) x0.tables.length x0.tables.length)) := (Owns.one ho0 (j := 0) (by omega)).rd'.any; clear ho0; clear hB0)
  refine hK.out _ _ ?_ (fun hHeld => ?_)
  · (first | exact CE.out _ hx | exact CE.out _ (ALAT.out _ _ hx (Below.refl _ _).drew))
  clear hK K
  try simp only [Act.put, tkS]
  refine wpAnyH_ready (rs := [3]) (by kernel_rfl) (by simp) (AllReadyH.cons rfl (fun K hK => ?_) AllReadyH.nil)
  go_simp
  (go_at_call 9; refine (TO1.out _ (by first | exact hx | exact ALAT.out _ _ hx (Below.refl _ _).drew)).mono ?_; rintro e wt1 ⟨p1_2, p1_7, rfl, ho1, hB1, hA1⟩; clear hx; have hx := hA1; clear hA1; have RC1_2 : Hid (Rd _ (fun _ => True) (dStringS x1.cs) (.slice (some ⟨p1_2, 0, none⟩) x1.cs.length x1.cs.length)) := (Owns.one ho1 (j := 2) (by omega)).rd'.any; have RC1_7 : Hid (Rd _ (fun _ => True) (dCondS x1.wh) (.slice (some ⟨p1_7, 0, none⟩) x1.wh.length x1.wh.length)) := (Owns.one ho1 (j := 7) (by omega)).rd'.any; have RE0_0 := Lib.hid (Rd.later RC0_0.out (by first | exact hB1 | exact (Below.refl _ _).drew.trans hB1)); clear RC0_0; have RC0_0 := RE0_0; clear RE0_0; clear ho1; clear hB1)
  refine hK.out _ _ ?_ (fun hHeld => ?_)
  · (first | exact CE.out _ hx | exact CE.out _ (ALAT.out _ _ hx (Below.refl _ _).drew))
  clear hK K
  try simp only [Act.put, tkS]
  refine wpAnyH_ready (rs := [4]) (by kernel_rfl) (by simp) (AllReadyH.cons rfl (fun K hK => ?_) AllReadyH.nil)
  go_simp
  (go_at_call 7; refine (CS.out _ _ _ _ _ _ _ (by first | exact RC0_0.out | exact RC0_0.out.later (Below.refl _ _).drew) (by first | exact RC1_2.out | exact RC1_2.out.later (Below.refl _ _).drew) (by first | exact RC1_7.out | exact RC1_7.out.later (Below.refl _ _).drew)).mono ?_; rintro e w2 ⟨rfl, hB2⟩; have h2 := ALAT.out _ _ hx (by first | exact hB2 | exact (Below.refl _ _).drew.trans hB2); clear hx hB2; have hx := h2; clear h2)
  refine hK.out _ _ ?_ (fun hHeld => ?_)
  · (first | exact CE.out _ hx | exact CE.out _ (ALAT.out _ _ hx (Below.refl _ _).drew))
  clear hK K
  try simp only [Act.put, tkS]
  refine wpAnyH_take (i := 5) (v := ?_) rfl (by kernel_rfl) (by kernel_rfl) (by kernel_rfl) (fun _ _ _ h => h) (Or.inl ⟨by kernel_rfl, ?_⟩) (by assumption) ?_
  rotate_left
  · (intro wS hSw; (try dsimp only at hSw); go_simp <;> with_reducible rfl)
  try simp only [Act.put, tkS]
  refine wpAnyH_take (i := 6) (v := ?_) rfl (by kernel_rfl) (by kernel_rfl) (by kernel_rfl) (fun _ _ _ h => h) (Or.inl ⟨by kernel_rfl, ?_⟩) (by assumption) ?_
  rotate_left
  · (intro wS hSw; (try dsimp only at hSw); go_simp <;> with_reducible rfl)
  try simp only [Act.put, tkS]
  refine wpAnyH_take (i := 7) (v := ?_) rfl (by kernel_rfl) (by kernel_rfl) (by kernel_rfl) (fun _ _ _ h => h) (Or.inl ⟨by kernel_rfl, ?_⟩) (by assumption) ?_
  rotate_left
  · (intro wS hSw; (try dsimp only at hSw); go_simp <;> with_reducible rfl)
  try simp only [Act.put, tkS]
  refine wpAnyH_take (i := 8) (v := ?_) rfl (by kernel_rfl) (by kernel_rfl) (by kernel_rfl) (fun _ _ _ h => h) (Or.inl ⟨by kernel_rfl, ?_⟩) (by assumption) ?_
  rotate_left
  · (intro wS hSw; (try dsimp only at hSw); go_simp <;> with_reducible rfl)
  try simp only [Act.put, tkS]
  refine wpAnyH_take (i := 9) (v := ?_) rfl (by kernel_rfl) (by kernel_rfl) (by kernel_rfl) (fun _ _ _ h => h) (Or.inl ⟨by kernel_rfl, ?_⟩) (by assumption) ?_
  rotate_left
  · (intro wS hSw; (try dsimp only at hSw); go_simp <;> with_reducible rfl)
  try simp only [Act.put, tkS]
  refine wpAnyH_done (by kernel_rfl) ?_ _
  clear AS1
  have A2 := Lib.hid hx
  clear hx x0_0 x1_0 x1_1 x1_2 x1_3 x1_4 x1_5 x1_6 x1_7 RC0_0 RC1_2 RC1_7
  have x0_0 := cell_at (o := 0) A2.out.2.1 rfl
  have x1_0 := cell_at (o := 0) A2.out.2.2 rfl
  have x1_1 := cell_at (o := 1) A2.out.2.2 rfl
  have x1_2 := cell_at (o := 2) A2.out.2.2 rfl
  have x1_3 := cell_at (o := 3) A2.out.2.2 rfl
  have x1_4 := cell_at (o := 4) A2.out.2.2 rfl
  have x1_5 := cell_at (o := 5) A2.out.2.2 rfl
  have x1_6 := cell_at (o := 6) A2.out.2.2 rfl
  have x1_7 := cell_at (o := 7) A2.out.2.2 rfl
  go_wp2_with fail
  refine (TO0.out _ (by first | exact A2.out | exact ALAT.out _ _ A2.out (Below.refl _ _).drew)).mono ?_
  rintro e wx0 ⟨p0_0, rfl, ho, hB, hA⟩
  have XS0L : Hid (∀ W W', (Below w.heap.size w W ∧ W.heap[w.heap.size]? = some (.cells #[.slice a0_0 x0.tables.length c0_0] 24) ∧ W.heap[w.heap.size + 1]? = some (.cells #[.string ⟨x1.nm.toArray⟩, .string ⟨x1.tb.toArray⟩, .slice a1_2 x1.cs.length c1_2, .bool x1.ini, .bool x1.ins, .bool x1.del, .bool x1.mod, .slice a1_7 x1.wh.length c1_7] 28) ∧ W.heap[wx0.heap.size]? = some (.cells #[.slice (some ⟨p0_0, 0, none⟩) x0.tables.length x0.tables.length] 35) ∧ Rd W (fun _ => True) (dTableS x0.tables) (.slice (some ⟨p0_0, 0, none⟩) x0.tables.length x0.tables.length)) → Below W.heap.size W W' → (Below w.heap.size w W' ∧ W'.heap[w.heap.size]? = some (.cells #[.slice a0_0 x0.tables.length c0_0] 24) ∧ W'.heap[w.heap.size + 1]? = some (.cells #[.string ⟨x1.nm.toArray⟩, .string ⟨x1.tb.toArray⟩, .slice a1_2 x1.cs.length c1_2, .bool x1.ini, .bool x1.ins, .bool x1.del, .bool x1.mod, .slice a1_7 x1.wh.length c1_7] 28) ∧ W'.heap[wx0.heap.size]? = some (.cells #[.slice (some ⟨p0_0, 0, none⟩) x0.tables.length x0.tables.length] 35) ∧ Rd W' (fun _ => True) (dTableS x0.tables) (.slice (some ⟨p0_0, 0, none⟩) x0.tables.length x0.tables.length))) := fun W W' h hB => ⟨h.1.trans (hB.mono h.1.size), heap_keptD h.2.1 hB, heap_keptD h.2.2.1 hB, heap_keptD h.2.2.2.1 hB, h.2.2.2.2.later hB⟩
  have Y0 : Hid (Below w.heap.size w (wx0.alloc (.cells #[.slice (some ⟨p0_0, 0, none⟩) x0.tables.length x0.tables.length] 35)) ∧ (wx0.alloc (.cells #[.slice (some ⟨p0_0, 0, none⟩) x0.tables.length x0.tables.length] 35)).heap[w.heap.size]? = some (.cells #[.slice a0_0 x0.tables.length c0_0] 24) ∧ (wx0.alloc (.cells #[.slice (some ⟨p0_0, 0, none⟩) x0.tables.length x0.tables.length] 35)).heap[w.heap.size + 1]? = some (.cells #[.string ⟨x1.nm.toArray⟩, .string ⟨x1.tb.toArray⟩, .slice a1_2 x1.cs.length c1_2, .bool x1.ini, .bool x1.ins, .bool x1.del, .bool x1.mod, .slice a1_7 x1.wh.length c1_7] 28) ∧ (wx0.alloc (.cells #[.slice (some ⟨p0_0, 0, none⟩) x0.tables.length x0.tables.length] 35)).heap[wx0.heap.size]? = some (.cells #[.slice (some ⟨p0_0, 0, none⟩) x0.tables.length x0.tables.length] 35) ∧ Rd (wx0.alloc (.cells #[.slice (some ⟨p0_0, 0, none⟩) x0.tables.length x0.tables.length] 35)) (fun _ => True) (dTableS x0.tables) (.slice (some ⟨p0_0, 0, none⟩) x0.tables.length x0.tables.length)) := ⟨hA.1.trans ((below_allocD _ _).mono hA.1.size), heap_keptD hA.2.1 (below_allocD _ _), heap_keptD hA.2.2 (below_allocD _ _), heap_newD _ _, Rd.later ((Owns.one ho (j := 0) (by omega)).rd'.any) (below_allocD _ _)⟩
  clear hB hA ho A2 x0_0 x1_0 x1_1 x1_2 x1_3 x1_4 x1_5 x1_6 x1_7
  have x0_0 := cell_at (o := 0) Y0.out.2.1 rfl
  have x1_0 := cell_at (o := 0) Y0.out.2.2.1 rfl
  have x1_1 := cell_at (o := 1) Y0.out.2.2.1 rfl
  have x1_2 := cell_at (o := 2) Y0.out.2.2.1 rfl
  have x1_3 := cell_at (o := 3) Y0.out.2.2.1 rfl
  have x1_4 := cell_at (o := 4) Y0.out.2.2.1 rfl
  have x1_5 := cell_at (o := 5) Y0.out.2.2.1 rfl
  have x1_6 := cell_at (o := 6) Y0.out.2.2.1 rfl
  have x1_7 := cell_at (o := 7) Y0.out.2.2.1 rfl
  have y0_0 := cell_at (o := 0) Y0.out.2.2.2.1 rfl
  go_wp2_with fail
  refine (TO1.out _ ⟨Y0.out.1, Y0.out.2.1, Y0.out.2.2.1⟩).mono ?_
  rintro e wx1 ⟨p1_2, p1_7, rfl, ho, hB, hA⟩
  have XO := XS0L.out _ _ Y0.out hB
  have XS1L : Hid (∀ W W', (Below w.heap.size w W ∧ W.heap[w.heap.size]? = some (.cells #[.slice a0_0 x0.tables.length c0_0] 24) ∧ W.heap[w.heap.size + 1]? = some (.cells #[.string ⟨x1.nm.toArray⟩, .string ⟨x1.tb.toArray⟩, .slice a1_2 x1.cs.length c1_2, .bool x1.ini, .bool x1.ins, .bool x1.del, .bool x1.mod, .slice a1_7 x1.wh.length c1_7] 28) ∧ W.heap[wx0.heap.size]? = some (.cells #[.slice (some ⟨p0_0, 0, none⟩) x0.tables.length x0.tables.length] 35) ∧ Rd W (fun _ => True) (dTableS x0.tables) (.slice (some ⟨p0_0, 0, none⟩) x0.tables.length x0.tables.length) ∧ W.heap[wx1.heap.size]? = some (.cells #[.string ⟨x1.nm.toArray⟩, .string ⟨x1.tb.toArray⟩, .slice (some ⟨p1_2, 0, none⟩) x1.cs.length x1.cs.length, .bool x1.ini, .bool x1.ins, .bool x1.del, .bool x1.mod, .slice (some ⟨p1_7, 0, none⟩) x1.wh.length x1.wh.length] 39) ∧ Rd W (fun _ => True) (dStringS x1.cs) (.slice (some ⟨p1_2, 0, none⟩) x1.cs.length x1.cs.length) ∧ Rd W (fun _ => True) (dCondS x1.wh) (.slice (some ⟨p1_7, 0, none⟩) x1.wh.length x1.wh.length)) → Below W.heap.size W W' → (Below w.heap.size w W' ∧ W'.heap[w.heap.size]? = some (.cells #[.slice a0_0 x0.tables.length c0_0] 24) ∧ W'.heap[w.heap.size + 1]? = some (.cells #[.string ⟨x1.nm.toArray⟩, .string ⟨x1.tb.toArray⟩, .slice a1_2 x1.cs.length c1_2, .bool x1.ini, .bool x1.ins, .bool x1.del, .bool x1.mod, .slice a1_7 x1.wh.length c1_7] 28) ∧ W'.heap[wx0.heap.size]? = some (.cells #[.slice (some ⟨p0_0, 0, none⟩) x0.tables.length x0.tables.length] 35) ∧ Rd W' (fun _ => True) (dTableS x0.tables) (.slice (some ⟨p0_0, 0, none⟩) x0.tables.length x0.tables.length) ∧ W'.heap[wx1.heap.size]? = some (.cells #[.string ⟨x1.nm.toArray⟩, .string ⟨x1.tb.toArray⟩, .slice (some ⟨p1_2, 0, none⟩) x1.cs.length x1.cs.length, .bool x1.ini, .bool x1.ins, .bool x1.del, .bool x1.mod, .slice (some ⟨p1_7, 0, none⟩) x1.wh.length x1.wh.length] 39) ∧ Rd W' (fun _ => True) (dStringS x1.cs) (.slice (some ⟨p1_2, 0, none⟩) x1.cs.length x1.cs.length) ∧ Rd W' (fun _ => True) (dCondS x1.wh) (.slice (some ⟨p1_7, 0, none⟩) x1.wh.length x1.wh.length))) := fun W W' h hB => ⟨h.1.trans (hB.mono h.1.size), heap_keptD h.2.1 hB, heap_keptD h.2.2.1 hB, heap_keptD h.2.2.2.1 hB, h.2.2.2.2.1.later hB, heap_keptD h.2.2.2.2.2.1 hB, h.2.2.2.2.2.2.1.later hB, h.2.2.2.2.2.2.2.later hB⟩
  have Y1 : Hid (Below w.heap.size w (wx1.alloc (.cells #[.string ⟨x1.nm.toArray⟩, .string ⟨x1.tb.toArray⟩, .slice (some ⟨p1_2, 0, none⟩) x1.cs.length x1.cs.length, .bool x1.ini, .bool x1.ins, .bool x1.del, .bool x1.mod, .slice (some ⟨p1_7, 0, none⟩) x1.wh.length x1.wh.length] 39)) ∧ (wx1.alloc (.cells #[.string ⟨x1.nm.toArray⟩, .string ⟨x1.tb.toArray⟩, .slice (some ⟨p1_2, 0, none⟩) x1.cs.length x1.cs.length, .bool x1.ini, .bool x1.ins, .bool x1.del, .bool x1.mod, .slice (some ⟨p1_7, 0, none⟩) x1.wh.length x1.wh.length] 39)).heap[w.heap.size]? = some (.cells #[.slice a0_0 x0.tables.length c0_0] 24) ∧ (wx1.alloc (.cells #[.string ⟨x1.nm.toArray⟩, .string ⟨x1.tb.toArray⟩, .slice (some ⟨p1_2, 0, none⟩) x1.cs.length x1.cs.length, .bool x1.ini, .bool x1.ins, .bool x1.del, .bool x1.mod, .slice (some ⟨p1_7, 0, none⟩) x1.wh.length x1.wh.length] 39)).heap[w.heap.size + 1]? = some (.cells #[.string ⟨x1.nm.toArray⟩, .string ⟨x1.tb.toArray⟩, .slice a1_2 x1.cs.length c1_2, .bool x1.ini, .bool x1.ins, .bool x1.del, .bool x1.mod, .slice a1_7 x1.wh.length c1_7] 28) ∧ (wx1.alloc (.cells #[.string ⟨x1.nm.toArray⟩, .string ⟨x1.tb.toArray⟩, .slice (some ⟨p1_2, 0, none⟩) x1.cs.length x1.cs.length, .bool x1.ini, .bool x1.ins, .bool x1.del, .bool x1.mod, .slice (some ⟨p1_7, 0, none⟩) x1.wh.length x1.wh.length] 39)).heap[wx0.heap.size]? = some (.cells #[.slice (some ⟨p0_0, 0, none⟩) x0.tables.length x0.tables.length] 35) ∧ Rd (wx1.alloc (.cells #[.string ⟨x1.nm.toArray⟩, .string ⟨x1.tb.toArray⟩, .slice (some ⟨p1_2, 0, none⟩) x1.cs.length x1.cs.length, .bool x1.ini, .bool x1.ins, .bool x1.del, .bool x1.mod, .slice (some ⟨p1_7, 0, none⟩) x1.wh.length x1.wh.length] 39)) (fun _ => True) (dTableS x0.tables) (.slice (some ⟨p0_0, 0, none⟩) x0.tables.length x0.tables.length) ∧ (wx1.alloc (.cells #[.string ⟨x1.nm.toArray⟩, .string ⟨x1.tb.toArray⟩, .slice (some ⟨p1_2, 0, none⟩) x1.cs.length x1.cs.length, .bool x1.ini, .bool x1.ins, .bool x1.del, .bool x1.mod, .slice (some ⟨p1_7, 0, none⟩) x1.wh.length x1.wh.length] 39)).heap[wx1.heap.size]? = some (.cells #[.string ⟨x1.nm.toArray⟩, .string ⟨x1.tb.toArray⟩, .slice (some ⟨p1_2, 0, none⟩) x1.cs.length x1.cs.length, .bool x1.ini, .bool x1.ins, .bool x1.del, .bool x1.mod, .slice (some ⟨p1_7, 0, none⟩) x1.wh.length x1.wh.length] 39) ∧ Rd (wx1.alloc (.cells #[.string ⟨x1.nm.toArray⟩, .string ⟨x1.tb.toArray⟩, .slice (some ⟨p1_2, 0, none⟩) x1.cs.length x1.cs.length, .bool x1.ini, .bool x1.ins, .bool x1.del, .bool x1.mod, .slice (some ⟨p1_7, 0, none⟩) x1.wh.length x1.wh.length] 39)) (fun _ => True) (dStringS x1.cs) (.slice (some ⟨p1_2, 0, none⟩) x1.cs.length x1.cs.length) ∧ Rd (wx1.alloc (.cells #[.string ⟨x1.nm.toArray⟩, .string ⟨x1.tb.toArray⟩, .slice (some ⟨p1_2, 0, none⟩) x1.cs.length x1.cs.length, .bool x1.ini, .bool x1.ins, .bool x1.del, .bool x1.mod, .slice (some ⟨p1_7, 0, none⟩) x1.wh.length x1.wh.length] 39)) (fun _ => True) (dCondS x1.wh) (.slice (some ⟨p1_7, 0, none⟩) x1.wh.length x1.wh.length)) := ⟨XO.1.trans ((below_allocD _ _).mono XO.1.size), heap_keptD XO.2.1 (below_allocD _ _), heap_keptD XO.2.2.1 (below_allocD _ _), heap_keptD XO.2.2.2.1 (below_allocD _ _), XO.2.2.2.2.later (below_allocD _ _), heap_newD _ _, Rd.later ((Owns.one ho (j := 2) (by omega)).rd'.any) (below_allocD _ _), Rd.later ((Owns.one ho (j := 7) (by omega)).rd'.any) (below_allocD _ _)⟩
  clear hB hA ho XO Y0 XS0L x0_0 x1_0 x1_1 x1_2 x1_3 x1_4 x1_5 x1_6 x1_7 y0_0
  have x0_0 := cell_at (o := 0) Y1.out.2.1 rfl
  have x1_0 := cell_at (o := 0) Y1.out.2.2.1 rfl
  have x1_1 := cell_at (o := 1) Y1.out.2.2.1 rfl
  have x1_2 := cell_at (o := 2) Y1.out.2.2.1 rfl
  have x1_3 := cell_at (o := 3) Y1.out.2.2.1 rfl
  have x1_4 := cell_at (o := 4) Y1.out.2.2.1 rfl
  have x1_5 := cell_at (o := 5) Y1.out.2.2.1 rfl
  have x1_6 := cell_at (o := 6) Y1.out.2.2.1 rfl
  have x1_7 := cell_at (o := 7) Y1.out.2.2.1 rfl
  have y0_0 := cell_at (o := 0) Y1.out.2.2.2.1 rfl
  have y1_0 := cell_at (o := 0) Y1.out.2.2.2.2.2.1 rfl
  have y1_1 := cell_at (o := 1) Y1.out.2.2.2.2.2.1 rfl
  have y1_2 := cell_at (o := 2) Y1.out.2.2.2.2.2.1 rfl
  have y1_3 := cell_at (o := 3) Y1.out.2.2.2.2.2.1 rfl
  have y1_4 := cell_at (o := 4) Y1.out.2.2.2.2.2.1 rfl
  have y1_5 := cell_at (o := 5) Y1.out.2.2.2.2.2.1 rfl
  have y1_6 := cell_at (o := 6) Y1.out.2.2.2.2.2.1 rfl
  have y1_7 := cell_at (o := 7) Y1.out.2.2.2.2.2.1 rfl
  go_wp2_with fail
  refine (CI.out _ _ _ _ _ _ _ Y1.out.2.2.2.2.1 Y1.out.2.2.2.2.2.2.1 Y1.out.2.2.2.2.2.2.2).mono ?_
  rintro e wg ⟨rfl, hB⟩
  have Z := Lib.hid (XS1L.out _ _ Y1.out hB)
  clear hB Y1 x0_0 x1_0 x1_1 x1_2 x1_3 x1_4 x1_5 x1_6 x1_7 y0_0 y1_0 y1_1 y1_2 y1_3 y1_4 y1_5 y1_6 y1_7
  have x0_0 := cell_at (o := 0) Z.out.2.1 rfl
  have x1_0 := cell_at (o := 0) Z.out.2.2.1 rfl
  have x1_1 := cell_at (o := 1) Z.out.2.2.1 rfl
  have x1_2 := cell_at (o := 2) Z.out.2.2.1 rfl
  have x1_3 := cell_at (o := 3) Z.out.2.2.1 rfl
  have x1_4 := cell_at (o := 4) Z.out.2.2.1 rfl
  have x1_5 := cell_at (o := 5) Z.out.2.2.1 rfl
  have x1_6 := cell_at (o := 6) Z.out.2.2.1 rfl
  have x1_7 := cell_at (o := 7) Z.out.2.2.1 rfl
  have y0_0 := cell_at (o := 0) Z.out.2.2.2.1 rfl
  have y1_0 := cell_at (o := 0) Z.out.2.2.2.2.2.1 rfl
  have y1_1 := cell_at (o := 1) Z.out.2.2.2.2.2.1 rfl
  have y1_2 := cell_at (o := 2) Z.out.2.2.2.2.2.1 rfl
  have y1_3 := cell_at (o := 3) Z.out.2.2.2.2.2.1 rfl
  have y1_4 := cell_at (o := 4) Z.out.2.2.2.2.2.1 rfl
  have y1_5 := cell_at (o := 5) Z.out.2.2.2.2.2.1 rfl
  have y1_6 := cell_at (o := 6) Z.out.2.2.2.2.2.1 rfl
  have y1_7 := cell_at (o := 7) Z.out.2.2.2.2.2.1 rfl
  go_wp2_with fail
  have CE0 : Hid (∀ W, (Below w.heap.size w W ∧ W.heap[w.heap.size]? = some (.cells #[.slice a0_0 x0.tables.length c0_0] 24) ∧ W.heap[w.heap.size + 1]? = some (.cells #[.string ⟨x1.nm.toArray⟩, .string ⟨x1.tb.toArray⟩, .slice a1_2 x1.cs.length c1_2, .bool x1.ini, .bool x1.ins, .bool x1.del, .bool x1.mod, .slice a1_7 x1.wh.length c1_7] 28) ∧ W.heap[wx0.heap.size]? = some (.cells #[.slice (some ⟨p0_0, 0, none⟩) x0.tables.length x0.tables.length] 35) ∧ Rd W (fun _ => True) (dTableS x0.tables) (.slice (some ⟨p0_0, 0, none⟩) x0.tables.length x0.tables.length) ∧ W.heap[wx1.heap.size]? = some (.cells #[.string ⟨x1.nm.toArray⟩, .string ⟨x1.tb.toArray⟩, .slice (some ⟨p1_2, 0, none⟩) x1.cs.length x1.cs.length, .bool x1.ini, .bool x1.ins, .bool x1.del, .bool x1.mod, .slice (some ⟨p1_7, 0, none⟩) x1.wh.length x1.wh.length] 39) ∧ Rd W (fun _ => True) (dStringS x1.cs) (.slice (some ⟨p1_2, 0, none⟩) x1.cs.length x1.cs.length) ∧ Rd W (fun _ => True) (dCondS x1.wh) (.slice (some ⟨p1_7, 0, none⟩) x1.wh.length x1.wh.length)) → (W.cell? ⟨w.heap.size, 0, none⟩ = some (.slice a0_0 x0.tables.length c0_0) ∧ W.cell? ⟨wx0.heap.size, 0, none⟩ = some (.slice (some ⟨p0_0, 0, none⟩) x0.tables.length x0.tables.length))) := fun W h => ⟨cell_at (o := 0) h.2.1 rfl, cell_at (o := 0) h.2.2.2.1 rfl⟩
  have hx := Z.out
  clear Z
  have XA : Hid (∀ W, (Below w.heap.size w W ∧ W.heap[w.heap.size]? = some (.cells #[.slice a0_0 x0.tables.length c0_0] 24) ∧ W.heap[w.heap.size + 1]? = some (.cells #[.string ⟨x1.nm.toArray⟩, .string ⟨x1.tb.toArray⟩, .slice a1_2 x1.cs.length c1_2, .bool x1.ini, .bool x1.ins, .bool x1.del, .bool x1.mod, .slice a1_7 x1.wh.length c1_7] 28) ∧ W.heap[wx0.heap.size]? = some (.cells #[.slice (some ⟨p0_0, 0, none⟩) x0.tables.length x0.tables.length] 35) ∧ Rd W (fun _ => True) (dTableS x0.tables) (.slice (some ⟨p0_0, 0, none⟩) x0.tables.length x0.tables.length) ∧ W.heap[wx1.heap.size]? = some (.cells #[.string ⟨x1.nm.toArray⟩, .string ⟨x1.tb.toArray⟩, .slice (some ⟨p1_2, 0, none⟩) x1.cs.length x1.cs.length, .bool x1.ini, .bool x1.ins, .bool x1.del, .bool x1.mod, .slice (some ⟨p1_7, 0, none⟩) x1.wh.length x1.wh.length] 39) ∧ Rd W (fun _ => True) (dStringS x1.cs) (.slice (some ⟨p1_2, 0, none⟩) x1.cs.length x1.cs.length) ∧ Rd W (fun _ => True) (dCondS x1.wh) (.slice (some ⟨p1_7, 0, none⟩) x1.wh.length x1.wh.length)) → (Below w.heap.size w W ∧ W.heap[w.heap.size]? = some (.cells #[.slice a0_0 x0.tables.length c0_0] 24) ∧ W.heap[w.heap.size + 1]? = some (.cells #[.string ⟨x1.nm.toArray⟩, .string ⟨x1.tb.toArray⟩, .slice a1_2 x1.cs.length c1_2, .bool x1.ini, .bool x1.ins, .bool x1.del, .bool x1.mod, .slice a1_7 x1.wh.length c1_7] 28))) := fun W h => ⟨h.1, h.2.1, h.2.2.1⟩
  refine wp_region_held_drew (S := (fun W => W.cell? ⟨w.heap.size, 0, none⟩ = some (.slice a0_0 x0.tables.length c0_0) ∧ W.cell? ⟨wx0.heap.size, 0, none⟩ = some (.slice (some ⟨p0_0, 0, none⟩) x0.tables.length x0.tables.length))) (by kernel_rfl) ?_ (fun hHeld => ?_)
  · (first | exact CE0.out _ hx | exact CE0.out _ (XS1L.out _ _ hx (Below.refl _ _).drew))
  refine wpAnyH_take (i := 0) (v := ?_) rfl (by kernel_rfl) (by kernel_rfl) (by kernel_rfl) (fun _ _ _ h => h) (Or.inl ⟨by kernel_rfl, ?_⟩) (by assumption) ?_
  rotate_left
  · (intro wS hSw; (try dsimp only at hSw); go_simp <;> with_reducible rfl)
  try simp only [Act.put, tkS]
  refine wpAnyH_take (i := 1) (v := ?_) rfl (by kernel_rfl) (by kernel_rfl) (by kernel_rfl) (fun _ _ _ h => h) (Or.inl ⟨by kernel_rfl, ?_⟩) (by assumption) ?_
  rotate_left
  · (intro wS hSw; (try dsimp only at hSw); go_simp <;> with_reducible rfl)
  try simp only [Act.put, tkS]
  refine wpAnyH_ready (rs := [2]) (by kernel_rfl) (by simp) (AllReadyH.cons rfl (fun K hK => ?_) AllReadyH.nil)
  go_simp
  (go_at_call 8; refine (TO0.out _ (by first | exact XA.out _ hx | exact XA.out _ (XS1L.out _ _ hx (Below.refl _ _).drew))).mono ?_; rintro e we0 ⟨s0_0, rfl, ho, hB, _⟩; have h2 : Below w.heap.size w we0 ∧ we0.heap[w.heap.size]? = some (.cells #[.slice a0_0 x0.tables.length c0_0] 24) ∧ we0.heap[w.heap.size + 1]? = some (.cells #[.string ⟨x1.nm.toArray⟩, .string ⟨x1.tb.toArray⟩, .slice a1_2 x1.cs.length c1_2, .bool x1.ini, .bool x1.ins, .bool x1.del, .bool x1.mod, .slice a1_7 x1.wh.length c1_7] 28) ∧ we0.heap[wx0.heap.size]? = some (.cells #[.slice (some ⟨p0_0, 0, none⟩) x0.tables.length x0.tables.length] 35) ∧ Rd we0 (fun _ => True) (dTableS x0.tables) (.slice (some ⟨p0_0, 0, none⟩) x0.tables.length x0.tables.length) ∧ we0.heap[wx1.heap.size]? = some (.cells #[.string ⟨x1.nm.toArray⟩, .string ⟨x1.tb.toArray⟩, .slice (some ⟨p1_2, 0, none⟩) x1.cs.length x1.cs.length, .bool x1.ini, .bool x1.ins, .bool x1.del, .bool x1.mod, .slice (some ⟨p1_7, 0, none⟩) x1.wh.length x1.wh.length] 39) ∧ Rd we0 (fun _ => True) (dStringS x1.cs) (.slice (some ⟨p1_2, 0, none⟩) x1.cs.length x1.cs.length) ∧ Rd we0 (fun _ => True) (dCondS x1.wh) (.slice (some ⟨p1_7, 0, none⟩) x1.wh.length x1.wh.length) := (by first | exact XS1L.out _ _ hx hB | exact XS1L.out _ _ (XS1L.out _ _ hx (Below.refl _ _).drew) hB); clear hx; have hx := h2; clear h2; have RE0_0 : Hid (Rd _ (fun _ => True) (dTableS x0.tables) (.slice (some ⟨s0_0, 0, none⟩) x0.tables.length x0.tables.length)) := (Owns.one ho (j := 0) (by omega)).rd'.any; clear hB ho)
  refine hK.out _ _ ?_ (fun hHeld => ?_)
  · (first | exact CE0.out _ hx | exact CE0.out _ (XS1L.out _ _ hx (Below.refl _ _).drew))
  clear hK K
  try simp only [Act.put, tkS]
  refine wpAnyH_ready (rs := [3]) (by kernel_rfl) (by simp) (AllReadyH.cons rfl (fun K hK => ?_) AllReadyH.nil)
  go_simp
  (go_at_call 11; refine (EQ0.out _ _ _ _ _ (by first | exact hx.2.2.2.2.1 | exact Rd.later hx.2.2.2.2.1 (Below.refl _ _).drew) (by first | exact RE0_0.out | exact Rd.later RE0_0.out (Below.refl _ _).drew)).mono ?_; rintro e wf0 ⟨rfl, hB⟩; have h2 : Below w.heap.size w wf0 ∧ wf0.heap[w.heap.size]? = some (.cells #[.slice a0_0 x0.tables.length c0_0] 24) ∧ wf0.heap[w.heap.size + 1]? = some (.cells #[.string ⟨x1.nm.toArray⟩, .string ⟨x1.tb.toArray⟩, .slice a1_2 x1.cs.length c1_2, .bool x1.ini, .bool x1.ins, .bool x1.del, .bool x1.mod, .slice a1_7 x1.wh.length c1_7] 28) ∧ wf0.heap[wx0.heap.size]? = some (.cells #[.slice (some ⟨p0_0, 0, none⟩) x0.tables.length x0.tables.length] 35) ∧ Rd wf0 (fun _ => True) (dTableS x0.tables) (.slice (some ⟨p0_0, 0, none⟩) x0.tables.length x0.tables.length) ∧ wf0.heap[wx1.heap.size]? = some (.cells #[.string ⟨x1.nm.toArray⟩, .string ⟨x1.tb.toArray⟩, .slice (some ⟨p1_2, 0, none⟩) x1.cs.length x1.cs.length, .bool x1.ini, .bool x1.ins, .bool x1.del, .bool x1.mod, .slice (some ⟨p1_7, 0, none⟩) x1.wh.length x1.wh.length] 39) ∧ Rd wf0 (fun _ => True) (dStringS x1.cs) (.slice (some ⟨p1_2, 0, none⟩) x1.cs.length x1.cs.length) ∧ Rd wf0 (fun _ => True) (dCondS x1.wh) (.slice (some ⟨p1_7, 0, none⟩) x1.wh.length x1.wh.length) := (by first | exact XS1L.out _ _ hx hB | exact XS1L.out _ _ (XS1L.out _ _ hx (Below.refl _ _).drew) hB); clear hx hB; have hx := h2; clear h2)
  refine hK.out _ _ ?_ (fun hHeld => ?_)
  · (first | exact CE0.out _ hx | exact CE0.out _ (XS1L.out _ _ hx (Below.refl _ _).drew))
  clear hK K
  try simp only [Act.put, tkS]
  refine wpAnyH_take (i := 4) (v := ?_) rfl (by kernel_rfl) (by kernel_rfl) (by kernel_rfl) (fun _ _ _ h => h) (Or.inl ⟨by kernel_rfl, ?_⟩) (by assumption) ?_
  rotate_left
  · (intro wS hSw; (try dsimp only at hSw); go_simp <;> with_reducible rfl)
  try simp only [Act.put, tkS]
  refine wpAnyH_done (by kernel_rfl) ?_ _
  clear x0_0 x1_0 x1_1 x1_2 x1_3 x1_4 x1_5 x1_6 x1_7 y0_0 y1_0 y1_1 y1_2 y1_3 y1_4 y1_5 y1_6 y1_7 RE0_0
  have x0_0 := cell_at (o := 0) hx.2.1 rfl
  have x1_0 := cell_at (o := 0) hx.2.2.1 rfl
  have x1_1 := cell_at (o := 1) hx.2.2.1 rfl
  have x1_2 := cell_at (o := 2) hx.2.2.1 rfl
  have x1_3 := cell_at (o := 3) hx.2.2.1 rfl
  have x1_4 := cell_at (o := 4) hx.2.2.1 rfl
  have x1_5 := cell_at (o := 5) hx.2.2.1 rfl
  have x1_6 := cell_at (o := 6) hx.2.2.1 rfl
  have x1_7 := cell_at (o := 7) hx.2.2.1 rfl
  have y0_0 := cell_at (o := 0) hx.2.2.2.1 rfl
  have y1_0 := cell_at (o := 0) hx.2.2.2.2.2.1 rfl
  have y1_1 := cell_at (o := 1) hx.2.2.2.2.2.1 rfl
  have y1_2 := cell_at (o := 2) hx.2.2.2.2.2.1 rfl
  have y1_3 := cell_at (o := 3) hx.2.2.2.2.2.1 rfl
  have y1_4 := cell_at (o := 4) hx.2.2.2.2.2.1 rfl
  have y1_5 := cell_at (o := 5) hx.2.2.2.2.2.1 rfl
  have y1_6 := cell_at (o := 6) hx.2.2.2.2.2.1 rfl
  have y1_7 := cell_at (o := 7) hx.2.2.2.2.2.1 rfl
  go_wp2_with fail
  have CE1 : Hid (∀ W, (Below w.heap.size w W ∧ W.heap[w.heap.size]? = some (.cells #[.slice a0_0 x0.tables.length c0_0] 24) ∧ W.heap[w.heap.size + 1]? = some (.cells #[.string ⟨x1.nm.toArray⟩, .string ⟨x1.tb.toArray⟩, .slice a1_2 x1.cs.length c1_2, .bool x1.ini, .bool x1.ins, .bool x1.del, .bool x1.mod, .slice a1_7 x1.wh.length c1_7] 28) ∧ W.heap[wx0.heap.size]? = some (.cells #[.slice (some ⟨p0_0, 0, none⟩) x0.tables.length x0.tables.length] 35) ∧ Rd W (fun _ => True) (dTableS x0.tables) (.slice (some ⟨p0_0, 0, none⟩) x0.tables.length x0.tables.length) ∧ W.heap[wx1.heap.size]? = some (.cells #[.string ⟨x1.nm.toArray⟩, .string ⟨x1.tb.toArray⟩, .slice (some ⟨p1_2, 0, none⟩) x1.cs.length x1.cs.length, .bool x1.ini, .bool x1.ins, .bool x1.del, .bool x1.mod, .slice (some ⟨p1_7, 0, none⟩) x1.wh.length x1.wh.length] 39) ∧ Rd W (fun _ => True) (dStringS x1.cs) (.slice (some ⟨p1_2, 0, none⟩) x1.cs.length x1.cs.length) ∧ Rd W (fun _ => True) (dCondS x1.wh) (.slice (some ⟨p1_7, 0, none⟩) x1.wh.length x1.wh.length)) → (W.cell? ⟨w.heap.size + 1, 0, none⟩ = some (.string ⟨x1.nm.toArray⟩) ∧ W.cell? ⟨w.heap.size + 1, 1, none⟩ = some (.string ⟨x1.tb.toArray⟩) ∧ W.cell? ⟨w.heap.size + 1, 2, none⟩ = some (.slice a1_2 x1.cs.length c1_2) ∧ W.cell? ⟨w.heap.size + 1, 3, none⟩ = some (.bool x1.ini) ∧ W.cell? ⟨w.heap.size + 1, 4, none⟩ = some (.bool x1.ins) ∧ W.cell? ⟨w.heap.size + 1, 5, none⟩ = some (.bool x1.del) ∧ W.cell? ⟨w.heap.size + 1, 6, none⟩ = some (.bool x1.mod) ∧ W.cell? ⟨w.heap.size + 1, 7, none⟩ = some (.slice a1_7 x1.wh.length c1_7) ∧ W.cell? ⟨wx1.heap.size, 0, none⟩ = some (.string ⟨x1.nm.toArray⟩) ∧ W.cell? ⟨wx1.heap.size, 1, none⟩ = some (.string ⟨x1.tb.toArray⟩) ∧ W.cell? ⟨wx1.heap.size, 2, none⟩ = some (.slice (some ⟨p1_2, 0, none⟩) x1.cs.length x1.cs.length) ∧ W.cell? ⟨wx1.heap.size, 3, none⟩ = some (.bool x1.ini) ∧ W.cell? ⟨wx1.heap.size, 4, none⟩ = some (.bool x1.ins) ∧ W.cell? ⟨wx1.heap.size, 5, none⟩ = some (.bool x1.del) ∧ W.cell? ⟨wx1.heap.size, 6, none⟩ = some (.bool x1.mod) ∧ W.cell? ⟨wx1.heap.size, 7, none⟩ = some (.slice (some ⟨p1_7, 0, none⟩) x1.wh.length x1.wh.length))) := fun W h => ⟨cell_at (o := 0) h.2.2.1 rfl, cell_at (o := 1) h.2.2.1 rfl, cell_at (o := 2) h.2.2.1 rfl, cell_at (o := 3) h.2.2.1 rfl, cell_at (o := 4) h.2.2.1 rfl, cell_at (o := 5) h.2.2.1 rfl, cell_at (o := 6) h.2.2.1 rfl, cell_at (o := 7) h.2.2.1 rfl, cell_at (o := 0) h.2.2.2.2.2.1 rfl, cell_at (o := 1) h.2.2.2.2.2.1 rfl, cell_at (o := 2) h.2.2.2.2.2.1 rfl, cell_at (o := 3) h.2.2.2.2.2.1 rfl, cell_at (o := 4) h.2.2.2.2.2.1 rfl, cell_at (o := 5) h.2.2.2.2.2.1 rfl, cell_at (o := 6) h.2.2.2.2.2.1 rfl, cell_at (o := 7) h.2.2.2.2.2.1 rfl⟩
  refine wp_region_held_drew (S := (fun W => W.cell? ⟨w.heap.size + 1, 0, none⟩ = some (.string ⟨x1.nm.toArray⟩) ∧ W.cell? ⟨w.heap.size + 1, 1, none⟩ = some (.string ⟨x1.tb.toArray⟩) ∧ W.cell? ⟨w.heap.size + 1, 2, none⟩ = some (.slice a1_2 x1.cs.length c1_2) ∧ W.cell? ⟨w.heap.size + 1, 3, none⟩ = some (.bool x1.ini) ∧ W.cell? ⟨w.heap.size + 1, 4, none⟩ = some (.bool x1.ins) ∧ W.cell? ⟨w.heap.size + 1, 5, none⟩ = some (.bool x1.del) ∧ W.cell? ⟨w.heap.size + 1, 6, none⟩ = some (.bool x1.mod) ∧ W.cell? ⟨w.heap.size + 1, 7, none⟩ = some (.slice a1_7 x1.wh.length c1_7) ∧ W.cell? ⟨wx1.heap.size, 0, none⟩ = some (.string ⟨x1.nm.toArray⟩) ∧ W.cell? ⟨wx1.heap.size, 1, none⟩ = some (.string ⟨x1.tb.toArray⟩) ∧ W.cell? ⟨wx1.heap.size, 2, none⟩ = some (.slice (some ⟨p1_2, 0, none⟩) x1.cs.length x1.cs.length) ∧ W.cell? ⟨wx1.heap.size, 3, none⟩ = some (.bool x1.ini) ∧ W.cell? ⟨wx1.heap.size, 4, none⟩ = some (.bool x1.ins) ∧ W.cell? ⟨wx1.heap.size, 5, none⟩ = some (.bool x1.del) ∧ W.cell? ⟨wx1.heap.size, 6, none⟩ = some (.bool x1.mod) ∧ W.cell? ⟨wx1.heap.size, 7, none⟩ = some (.slice (some ⟨p1_7, 0, none⟩) x1.wh.length x1.wh.length))) (by kernel_rfl) ?_ (fun hHeld => ?_)
  · (first | exact CE1.out _ hx | exact CE1.out _ (XS1L.out _ _ hx (Below.refl _ _).drew))
  refine wpAnyH_take (i := 0) (v := ?_) rfl (by kernel_rfl) (by kernel_rfl) (by kernel_rfl) (fun _ _ _ h => h) (Or.inl ⟨by kernel_rfl, ?_⟩) (by assumption) ?_
  rotate_left
  · (intro wS hSw; (try dsimp only at hSw); go_simp <;> with_reducible rfl)
  try simp only [Act.put, tkS]
  refine wpAnyH_take (i := 1) (v := ?_) rfl (by kernel_rfl) (by kernel_rfl) (by kernel_rfl) (fun _ _ _ h => h) (Or.inl ⟨by kernel_rfl, ?_⟩) (by assumption) ?_
  rotate_left
  · (intro wS hSw; (try dsimp only at hSw); go_simp <;> with_reducible rfl)
  try simp only [Act.put, tkS]
  refine wpAnyH_ready (rs := [2]) (by kernel_rfl) (by simp) (AllReadyH.cons rfl (fun K hK => ?_) AllReadyH.nil)
  go_simp
  (go_at_call 9; refine (TO1.out _ (by first | exact XA.out _ hx | exact XA.out _ (XS1L.out _ _ hx (Below.refl _ _).drew))).mono ?_; rintro e we1 ⟨s1_2, s1_7, rfl, ho, hB, _⟩; have h2 : Below w.heap.size w we1 ∧ we1.heap[w.heap.size]? = some (.cells #[.slice a0_0 x0.tables.length c0_0] 24) ∧ we1.heap[w.heap.size + 1]? = some (.cells #[.string ⟨x1.nm.toArray⟩, .string ⟨x1.tb.toArray⟩, .slice a1_2 x1.cs.length c1_2, .bool x1.ini, .bool x1.ins, .bool x1.del, .bool x1.mod, .slice a1_7 x1.wh.length c1_7] 28) ∧ we1.heap[wx0.heap.size]? = some (.cells #[.slice (some ⟨p0_0, 0, none⟩) x0.tables.length x0.tables.length] 35) ∧ Rd we1 (fun _ => True) (dTableS x0.tables) (.slice (some ⟨p0_0, 0, none⟩) x0.tables.length x0.tables.length) ∧ we1.heap[wx1.heap.size]? = some (.cells #[.string ⟨x1.nm.toArray⟩, .string ⟨x1.tb.toArray⟩, .slice (some ⟨p1_2, 0, none⟩) x1.cs.length x1.cs.length, .bool x1.ini, .bool x1.ins, .bool x1.del, .bool x1.mod, .slice (some ⟨p1_7, 0, none⟩) x1.wh.length x1.wh.length] 39) ∧ Rd we1 (fun _ => True) (dStringS x1.cs) (.slice (some ⟨p1_2, 0, none⟩) x1.cs.length x1.cs.length) ∧ Rd we1 (fun _ => True) (dCondS x1.wh) (.slice (some ⟨p1_7, 0, none⟩) x1.wh.length x1.wh.length) := (by first | exact XS1L.out _ _ hx hB | exact XS1L.out _ _ (XS1L.out _ _ hx (Below.refl _ _).drew) hB); clear hx; have hx := h2; clear h2; have RE1_2 : Hid (Rd _ (fun _ => True) (dStringS x1.cs) (.slice (some ⟨s1_2, 0, none⟩) x1.cs.length x1.cs.length)) := (Owns.one ho (j := 2) (by omega)).rd'.any; have RE1_7 : Hid (Rd _ (fun _ => True) (dCondS x1.wh) (.slice (some ⟨s1_7, 0, none⟩) x1.wh.length x1.wh.length)) := (Owns.one ho (j := 7) (by omega)).rd'.any; clear hB ho)
  refine hK.out _ _ ?_ (fun hHeld => ?_)
  · (first | exact CE1.out _ hx | exact CE1.out _ (XS1L.out _ _ hx (Below.refl _ _).drew))
  clear hK K
  try simp only [Act.put, tkS]
  refine wpAnyH_ready (rs := [3]) (by kernel_rfl) (by simp) (AllReadyH.cons rfl (fun K hK => ?_) AllReadyH.nil)
  go_simp
  (go_at_call 12; refine (EQ1.out _ _ _ _ _ _ _ _ _ (by first | exact hx.2.2.2.2.2.2.1 | exact Rd.later hx.2.2.2.2.2.2.1 (Below.refl _ _).drew) (by first | exact hx.2.2.2.2.2.2.2 | exact Rd.later hx.2.2.2.2.2.2.2 (Below.refl _ _).drew) (by first | exact RE1_2.out | exact Rd.later RE1_2.out (Below.refl _ _).drew) (by first | exact RE1_7.out | exact Rd.later RE1_7.out (Below.refl _ _).drew)).mono ?_; rintro e wf1 ⟨rfl, hB⟩; have h2 : Below w.heap.size w wf1 ∧ wf1.heap[w.heap.size]? = some (.cells #[.slice a0_0 x0.tables.length c0_0] 24) ∧ wf1.heap[w.heap.size + 1]? = some (.cells #[.string ⟨x1.nm.toArray⟩, .string ⟨x1.tb.toArray⟩, .slice a1_2 x1.cs.length c1_2, .bool x1.ini, .bool x1.ins, .bool x1.del, .bool x1.mod, .slice a1_7 x1.wh.length c1_7] 28) ∧ wf1.heap[wx0.heap.size]? = some (.cells #[.slice (some ⟨p0_0, 0, none⟩) x0.tables.length x0.tables.length] 35) ∧ Rd wf1 (fun _ => True) (dTableS x0.tables) (.slice (some ⟨p0_0, 0, none⟩) x0.tables.length x0.tables.length) ∧ wf1.heap[wx1.heap.size]? = some (.cells #[.string ⟨x1.nm.toArray⟩, .string ⟨x1.tb.toArray⟩, .slice (some ⟨p1_2, 0, none⟩) x1.cs.length x1.cs.length, .bool x1.ini, .bool x1.ins, .bool x1.del, .bool x1.mod, .slice (some ⟨p1_7, 0, none⟩) x1.wh.length x1.wh.length] 39) ∧ Rd wf1 (fun _ => True) (dStringS x1.cs) (.slice (some ⟨p1_2, 0, none⟩) x1.cs.length x1.cs.length) ∧ Rd wf1 (fun _ => True) (dCondS x1.wh) (.slice (some ⟨p1_7, 0, none⟩) x1.wh.length x1.wh.length) := (by first | exact XS1L.out _ _ hx hB | exact XS1L.out _ _ (XS1L.out _ _ hx (Below.refl _ _).drew) hB); clear hx hB; have hx := h2; clear h2)
  refine hK.out _ _ ?_ (fun hHeld => ?_)
  · (first | exact CE1.out _ hx | exact CE1.out _ (XS1L.out _ _ hx (Below.refl _ _).drew))
  clear hK K
  try simp only [Act.put, tkS]
  refine wpAnyH_take (i := 4) (v := ?_) rfl (by kernel_rfl) (by kernel_rfl) (by kernel_rfl) (fun _ _ _ h => h) (Or.inl ⟨by kernel_rfl, ?_⟩) (by assumption) ?_
  rotate_left
  · (intro wS hSw; (try dsimp only at hSw); go_simp <;> with_reducible rfl)
  try simp only [Act.put, tkS]
  refine wpAnyH_done (by kernel_rfl) ?_ _
  clear x0_0 x1_0 x1_1 x1_2 x1_3 x1_4 x1_5 x1_6 x1_7 y0_0 y1_0 y1_1 y1_2 y1_3 y1_4 y1_5 y1_6 y1_7 RE1_2 RE1_7
  go_wp2_with fail
  go_ret
  exact ⟨rfl, by first | exact hx.1 | exact hx.1.drew⟩
end Go.Proofs.Ytenioffildinbaa
