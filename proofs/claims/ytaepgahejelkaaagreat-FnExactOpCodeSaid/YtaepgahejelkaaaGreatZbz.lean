import Derived.Test.YtaepgahejelkaaaGreatZby
import Derived.Test.YtaepgahejelkaaaGreatZbc
import Derived.Test.YtaepgahejelkaaaGreatZal
import Derived.Deep.RegionHeld3
import Derived.Deep.CutRange
import Derived.Test.YtaepgahejelkaaaGreatZTk
namespace Go.Proofs.YtaepgahejelkaaaGreat
open Go.RowKit
set_option linter.unusedSimpArgs false
set_option maxRecDepth 100000 in
set_option maxHeartbeats 12800000 in
theorem lawOpCode (x0 : ScV) (x1 : OpV) (a0_0 : Option Addr) (c0_0 : Nat) (a1_3 : Option Addr) (c1_3 : Nat) (a1_4 : Option Addr) (c1_4 : Nat) (a1_5 : Option Addr) (c1_5 : Nat) (a1_6 : Option Addr) (c1_6 : Nat) (w : World) (l0_0 : (dTableS x0.tables).le maxLen) (l1_3 : (dCondS x1.wh).le maxLen) (l1_4 : (dSetS x1.row).le maxLen) (l1_5 : (dMutS x1.mu).le maxLen) (l1_6 : (dStringS x1.cs).le maxLen) (l1_0 : iOK x1.kd) (l1_1 : x1.tb.length ≤ maxLen) (l1_2 : x1.nm.length ≤ maxLen) (r0_0 : Rd w (· < w.heap.size) (dTableS x0.tables) (.slice a0_0 x0.tables.length c0_0)) (r1_3 : Rd w (· < w.heap.size) (dCondS x1.wh) (.slice a1_3 x1.wh.length c1_3)) (r1_4 : Rd w (· < w.heap.size) (dSetS x1.row) (.slice a1_4 x1.row.length c1_4)) (r1_5 : Rd w (· < w.heap.size) (dMutS x1.mu) (.slice a1_5 x1.mu.length c1_5)) (r1_6 : Rd w (· < w.heap.size) (dStringS x1.cs) (.slice a1_6 x1.cs.length c1_6)) :
    Calls Tryz.prog 3 #[.agg #[.slice a0_0 x0.tables.length c0_0], .agg #[.int .i64 x1.kd, .string ⟨x1.tb.toArray⟩, .string ⟨x1.nm.toArray⟩, .slice a1_3 x1.wh.length c1_3, .slice a1_4 x1.row.length c1_4, .slice a1_5 x1.mu.length c1_5, .slice a1_6 x1.cs.length c1_6, .bool x1.un]] w fun e w' => e = .returned (.bool true) ∧ Below w.heap.size w w' := by
  have HL0_0 := Lib.hid l0_0
  have HO0 : Hid (∀ j, j < 1 → (dSchema x0 j).le maxLen) := fun j hj => by
    obtain rfl : j = 0 := by omega
    exact l0_0
  have RA0_0 : Hid (∀ W, Below w.heap.size w W → Rd W (· < w.heap.size) (dTableS x0.tables) (.slice a0_0 x0.tables.length c0_0)) := fun W h => Rd.same (fun b hb => h.block b hb) (fun _ h => h) _ _ r0_0
  have HL1_3 := Lib.hid l1_3
  have HL1_4 := Lib.hid l1_4
  have HL1_5 := Lib.hid l1_5
  have HL1_6 := Lib.hid l1_6
  have HO1 : Hid (∀ j, j < 8 → (dOp x1 j).le maxLen) := fun j hj => by
    rcases (by omega : j = 0 ∨ j = 1 ∨ j = 2 ∨ j = 3 ∨ j = 4 ∨ j = 5 ∨ j = 6 ∨ j = 7) with rfl | rfl | rfl | rfl | rfl | rfl | rfl | rfl
    · exact l1_0
    · exact l1_1
    · exact l1_2
    · exact l1_3
    · exact l1_4
    · exact l1_5
    · exact l1_6
    · exact trivial
  have RA1_3 : Hid (∀ W, Below w.heap.size w W → Rd W (· < w.heap.size) (dCondS x1.wh) (.slice a1_3 x1.wh.length c1_3)) := fun W h => Rd.same (fun b hb => h.block b hb) (fun _ h => h) _ _ r1_3
  have RA1_4 : Hid (∀ W, Below w.heap.size w W → Rd W (· < w.heap.size) (dSetS x1.row) (.slice a1_4 x1.row.length c1_4)) := fun W h => Rd.same (fun b hb => h.block b hb) (fun _ h => h) _ _ r1_4
  have RA1_5 : Hid (∀ W, Below w.heap.size w W → Rd W (· < w.heap.size) (dMutS x1.mu) (.slice a1_5 x1.mu.length c1_5)) := fun W h => Rd.same (fun b hb => h.block b hb) (fun _ h => h) _ _ r1_5
  have RA1_6 : Hid (∀ W, Below w.heap.size w W → Rd W (· < w.heap.size) (dStringS x1.cs) (.slice a1_6 x1.cs.length c1_6)) := fun W h => Rd.same (fun b hb => h.block b hb) (fun _ h => h) _ _ r1_6
  have ALAT : Hid (∀ W W', (Below w.heap.size w W ∧ W.heap[w.heap.size]? = some (.cells #[.slice a0_0 x0.tables.length c0_0] 24) ∧ W.heap[w.heap.size + 1]? = some (.cells #[.int .i64 x1.kd, .string ⟨x1.tb.toArray⟩, .string ⟨x1.nm.toArray⟩, .slice a1_3 x1.wh.length c1_3, .slice a1_4 x1.row.length c1_4, .slice a1_5 x1.mu.length c1_5, .slice a1_6 x1.cs.length c1_6, .bool x1.un] 30)) → Below W.heap.size W W' → (Below w.heap.size w W' ∧ W'.heap[w.heap.size]? = some (.cells #[.slice a0_0 x0.tables.length c0_0] 24) ∧ W'.heap[w.heap.size + 1]? = some (.cells #[.int .i64 x1.kd, .string ⟨x1.tb.toArray⟩, .string ⟨x1.nm.toArray⟩, .slice a1_3 x1.wh.length c1_3, .slice a1_4 x1.row.length c1_4, .slice a1_5 x1.mu.length c1_5, .slice a1_6 x1.cs.length c1_6, .bool x1.un] 30))) := fun W W' h hB => ⟨h.1.trans (hB.mono h.1.size), heap_keptD h.2.1 hB, heap_keptD h.2.2 hB⟩
  have A0 : Hid (Below w.heap.size w ((w.alloc (.cells #[.slice a0_0 x0.tables.length c0_0] 24)).alloc (.cells #[.int .i64 x1.kd, .string ⟨x1.tb.toArray⟩, .string ⟨x1.nm.toArray⟩, .slice a1_3 x1.wh.length c1_3, .slice a1_4 x1.row.length c1_4, .slice a1_5 x1.mu.length c1_5, .slice a1_6 x1.cs.length c1_6, .bool x1.un] 30)) ∧ ((w.alloc (.cells #[.slice a0_0 x0.tables.length c0_0] 24)).alloc (.cells #[.int .i64 x1.kd, .string ⟨x1.tb.toArray⟩, .string ⟨x1.nm.toArray⟩, .slice a1_3 x1.wh.length c1_3, .slice a1_4 x1.row.length c1_4, .slice a1_5 x1.mu.length c1_5, .slice a1_6 x1.cs.length c1_6, .bool x1.un] 30)).heap[w.heap.size]? = some (.cells #[.slice a0_0 x0.tables.length c0_0] 24) ∧ ((w.alloc (.cells #[.slice a0_0 x0.tables.length c0_0] 24)).alloc (.cells #[.int .i64 x1.kd, .string ⟨x1.tb.toArray⟩, .string ⟨x1.nm.toArray⟩, .slice a1_3 x1.wh.length c1_3, .slice a1_4 x1.row.length c1_4, .slice a1_5 x1.mu.length c1_5, .slice a1_6 x1.cs.length c1_6, .bool x1.un] 30)).heap[w.heap.size + 1]? = some (.cells #[.int .i64 x1.kd, .string ⟨x1.tb.toArray⟩, .string ⟨x1.nm.toArray⟩, .slice a1_3 x1.wh.length c1_3, .slice a1_4 x1.row.length c1_4, .slice a1_5 x1.mu.length c1_5, .slice a1_6 x1.cs.length c1_6, .bool x1.un] 30)) := by
    refine ⟨(below_allocD _ _).trans ((below_allocD _ _).mono (by simp)), heap_keptD (heap_newD _ _) (below_allocD _ _), ?_⟩
    have h := heap_newD (w.alloc (.cells #[.slice a0_0 x0.tables.length c0_0] 24)) (.cells #[.int .i64 x1.kd, .string ⟨x1.tb.toArray⟩, .string ⟨x1.nm.toArray⟩, .slice a1_3 x1.wh.length c1_3, .slice a1_4 x1.row.length c1_4, .slice a1_5 x1.mu.length c1_5, .slice a1_6 x1.cs.length c1_6, .bool x1.un] 30)
    rw [size_allocD] at h
    exact h
  clear l0_0 r0_0 l1_3 r1_3 l1_4 r1_4 l1_5 r1_5 l1_6 r1_6 l1_0
  have x0_0 := cell_at (o := 0) A0.out.2.1 rfl
  have x1_0 := cell_at (o := 0) A0.out.2.2 rfl
  have x1_1 := cell_at (o := 1) A0.out.2.2 rfl
  have x1_2 := cell_at (o := 2) A0.out.2.2 rfl
  have x1_3 := cell_at (o := 3) A0.out.2.2 rfl
  have x1_4 := cell_at (o := 4) A0.out.2.2 rfl
  have x1_5 := cell_at (o := 5) A0.out.2.2 rfl
  have x1_6 := cell_at (o := 6) A0.out.2.2 rfl
  have x1_7 := cell_at (o := 7) A0.out.2.2 rfl
  go_enter Tryz.func3, Tryz.ntmps3
  go_wp2_with fail
  have bl : Hid ((0 : Int) ≤ 1048576 ∧ (1048576 : Int) ≤ 1048576) := by show _ ∧ _; omega
  refine (szDSchema x0 a0_0 c0_0 1048576 _ _ bl.out.1 bl.out.2 HO0.out (RA0_0.out _ A0.out.1)).mono ?_
  rintro e ws0 ⟨rfl, hB⟩
  have AS0 := Lib.hid (ALAT.out _ _ A0.out hB)
  clear hB A0 x0_0 x1_0 x1_1 x1_2 x1_3 x1_4 x1_5 x1_6 x1_7
  have x0_0 := cell_at (o := 0) AS0.out.2.1 rfl
  have x1_0 := cell_at (o := 0) AS0.out.2.2 rfl
  have x1_1 := cell_at (o := 1) AS0.out.2.2 rfl
  have x1_2 := cell_at (o := 2) AS0.out.2.2 rfl
  have x1_3 := cell_at (o := 3) AS0.out.2.2 rfl
  have x1_4 := cell_at (o := 4) AS0.out.2.2 rfl
  have x1_5 := cell_at (o := 5) AS0.out.2.2 rfl
  have x1_6 := cell_at (o := 6) AS0.out.2.2 rfl
  have x1_7 := cell_at (o := 7) AS0.out.2.2 rfl
  by_cases hz0 : (1048576 : Int) - (szT 1 (dSchema x0) : Int) < 0
  case pos =>
    rw [less_no hz0]
    go_wp2_with fail
    go_ret
    exact ⟨rfl, AS0.out.1⟩
  rw [less_yes (by omega)]
  obtain ⟨L0, hL0⟩ : ∃ L0 : Int, L0 = 1048576 - (szT 1 (dSchema x0) : Int) := ⟨_, rfl⟩
  rw [← hL0]
  have dL0 : decide (L0 < 0) = false := decide_eq_false (by omega)
  have HZ0 : Hid (szT 1 (dSchema x0) ≤ 1048576) := by have := bl.out; show _ ≤ _; omega
  have b2 : Hid (0 ≤ L0 ∧ L0 ≤ 1048576) := by have := bl.out; show _ ∧ _; omega
  clear hz0 hL0 bl
  have bl := b2
  clear b2
  go_wp2_with fail
  refine (szDOp x1 a1_3 c1_3 a1_4 c1_4 a1_5 c1_5 a1_6 c1_6 L0 _ _ bl.out.1 bl.out.2 HO1.out (RA1_3.out _ AS0.out.1) (RA1_4.out _ AS0.out.1) (RA1_5.out _ AS0.out.1) (RA1_6.out _ AS0.out.1)).mono ?_
  rintro e ws1 ⟨rfl, hB⟩
  have AS1 := Lib.hid (ALAT.out _ _ AS0.out hB)
  clear hB AS0 x0_0 x1_0 x1_1 x1_2 x1_3 x1_4 x1_5 x1_6 x1_7
  have x0_0 := cell_at (o := 0) AS1.out.2.1 rfl
  have x1_0 := cell_at (o := 0) AS1.out.2.2 rfl
  have x1_1 := cell_at (o := 1) AS1.out.2.2 rfl
  have x1_2 := cell_at (o := 2) AS1.out.2.2 rfl
  have x1_3 := cell_at (o := 3) AS1.out.2.2 rfl
  have x1_4 := cell_at (o := 4) AS1.out.2.2 rfl
  have x1_5 := cell_at (o := 5) AS1.out.2.2 rfl
  have x1_6 := cell_at (o := 6) AS1.out.2.2 rfl
  have x1_7 := cell_at (o := 7) AS1.out.2.2 rfl
  by_cases hz1 : L0 - (szT 8 (dOp x1) : Int) < 0
  case pos =>
    rw [less_no hz1]
    go_wp2_with fail
    go_ret
    exact ⟨rfl, AS1.out.1⟩
  rw [less_yes (by omega)]
  obtain ⟨L1, hL1⟩ : ∃ L1 : Int, L1 = L0 - (szT 8 (dOp x1) : Int) := ⟨_, rfl⟩
  rw [← hL1]
  have dL1 : decide (L1 < 0) = false := decide_eq_false (by omega)
  have HZ1 : Hid (szT 8 (dOp x1) ≤ 1048576) := by have := bl.out; show _ ≤ _; omega
  have b2 : Hid (0 ≤ L1 ∧ L1 ≤ 1048576) := by have := bl.out; show _ ∧ _; omega
  clear hz1 hL1 bl
  have bl := b2
  clear b2
  go_wp2_with fail
  have HK0 : Hid (∀ j, j < 1 → (dSchema x0 j).le 1048576) := fun j hj => D.le_of_sz _ (HO0.out j hj) (Nat.le_trans (sumN_le (g := fun j => (dSchema x0 j).sz) hj) HZ0.out)
  have HK1 : Hid (∀ j, j < 8 → (dOp x1 j).le 1048576) := fun j hj => D.le_of_sz _ (HO1.out j hj) (Nat.le_trans (sumN_le (g := fun j => (dOp x1 j).sz) hj) HZ1.out)
  have TO0 : Hid (∀ W, (Below w.heap.size w W ∧ W.heap[w.heap.size]? = some (.cells #[.slice a0_0 x0.tables.length c0_0] 24) ∧ W.heap[w.heap.size + 1]? = some (.cells #[.int .i64 x1.kd, .string ⟨x1.tb.toArray⟩, .string ⟨x1.nm.toArray⟩, .slice a1_3 x1.wh.length c1_3, .slice a1_4 x1.row.length c1_4, .slice a1_5 x1.mu.length c1_5, .slice a1_6 x1.cs.length c1_6, .bool x1.un] 30)) → Calls Tryz.prog 7 #[.agg #[.slice a0_0 x0.tables.length c0_0]] W fun e w' => ∃ p0 : Nat, e = .returned (.agg #[.slice (some ⟨p0, 0, none⟩) x0.tables.length x0.tables.length]) ∧ Owns w' 1 (dSchema x0) (vat [.slice (some ⟨p0, 0, none⟩) x0.tables.length x0.tables.length]) (fun c => W.heap.size ≤ c ∧ c < w'.heap.size) ∧ Below W.heap.size W w' ∧ (Below w.heap.size w w' ∧ w'.heap[w.heap.size]? = some (.cells #[.slice a0_0 x0.tables.length c0_0] 24) ∧ w'.heap[w.heap.size + 1]? = some (.cells #[.int .i64 x1.kd, .string ⟨x1.tb.toArray⟩, .string ⟨x1.nm.toArray⟩, .slice a1_3 x1.wh.length c1_3, .slice a1_4 x1.row.length c1_4, .slice a1_5 x1.mu.length c1_5, .slice a1_6 x1.cs.length c1_6, .bool x1.un] 30))) := fun W h => (toDSchema x0 a0_0 c0_0 _ W HK0.out (RA0_0.out W h.1)).mono (fun e w' ⟨p0, he, ho, hB⟩ => ⟨p0, he, ho, hB, ALAT.out _ _ h hB⟩)
  have TO1 : Hid (∀ W, (Below w.heap.size w W ∧ W.heap[w.heap.size]? = some (.cells #[.slice a0_0 x0.tables.length c0_0] 24) ∧ W.heap[w.heap.size + 1]? = some (.cells #[.int .i64 x1.kd, .string ⟨x1.tb.toArray⟩, .string ⟨x1.nm.toArray⟩, .slice a1_3 x1.wh.length c1_3, .slice a1_4 x1.row.length c1_4, .slice a1_5 x1.mu.length c1_5, .slice a1_6 x1.cs.length c1_6, .bool x1.un] 30)) → Calls Tryz.prog 8 #[.agg #[.int .i64 x1.kd, .string ⟨x1.tb.toArray⟩, .string ⟨x1.nm.toArray⟩, .slice a1_3 x1.wh.length c1_3, .slice a1_4 x1.row.length c1_4, .slice a1_5 x1.mu.length c1_5, .slice a1_6 x1.cs.length c1_6, .bool x1.un]] W fun e w' => ∃ p3 : Nat, ∃ p4 : Nat, ∃ p5 : Nat, ∃ p6 : Nat, e = .returned (.agg #[.int .i64 x1.kd, .string ⟨x1.tb.toArray⟩, .string ⟨x1.nm.toArray⟩, .slice (some ⟨p3, 0, none⟩) x1.wh.length x1.wh.length, .slice (some ⟨p4, 0, none⟩) x1.row.length x1.row.length, .slice (some ⟨p5, 0, none⟩) x1.mu.length x1.mu.length, .slice (some ⟨p6, 0, none⟩) x1.cs.length x1.cs.length, .bool x1.un]) ∧ Owns w' 8 (dOp x1) (vat [.int .i64 x1.kd, .string ⟨x1.tb.toArray⟩, .string ⟨x1.nm.toArray⟩, .slice (some ⟨p3, 0, none⟩) x1.wh.length x1.wh.length, .slice (some ⟨p4, 0, none⟩) x1.row.length x1.row.length, .slice (some ⟨p5, 0, none⟩) x1.mu.length x1.mu.length, .slice (some ⟨p6, 0, none⟩) x1.cs.length x1.cs.length, .bool x1.un]) (fun c => W.heap.size ≤ c ∧ c < w'.heap.size) ∧ Below W.heap.size W w' ∧ (Below w.heap.size w w' ∧ w'.heap[w.heap.size]? = some (.cells #[.slice a0_0 x0.tables.length c0_0] 24) ∧ w'.heap[w.heap.size + 1]? = some (.cells #[.int .i64 x1.kd, .string ⟨x1.tb.toArray⟩, .string ⟨x1.nm.toArray⟩, .slice a1_3 x1.wh.length c1_3, .slice a1_4 x1.row.length c1_4, .slice a1_5 x1.mu.length c1_5, .slice a1_6 x1.cs.length c1_6, .bool x1.un] 30))) := fun W h => (toDOp x1 a1_3 c1_3 a1_4 c1_4 a1_5 c1_5 a1_6 c1_6 _ W HK1.out (RA1_3.out W h.1) (RA1_4.out W h.1) (RA1_5.out W h.1) (RA1_6.out W h.1)).mono (fun e w' ⟨p3, p4, p5, p6, he, ho, hB⟩ => ⟨p3, p4, p5, p6, he, ho, hB, ALAT.out _ _ h hB⟩)
  have CS : Hid (∀ (W : World) (b0_0 : Option Addr) (e0_0 : Nat) (b1_3 : Option Addr) (e1_3 : Nat) (b1_4 : Option Addr) (e1_4 : Nat) (b1_5 : Option Addr) (e1_5 : Nat) (b1_6 : Option Addr) (e1_6 : Nat), Rd W (fun _ => True) (dTableS x0.tables) (.slice b0_0 x0.tables.length e0_0) → Rd W (fun _ => True) (dCondS x1.wh) (.slice b1_3 x1.wh.length e1_3) → Rd W (fun _ => True) (dSetS x1.row) (.slice b1_4 x1.row.length e1_4) → Rd W (fun _ => True) (dMutS x1.mu) (.slice b1_5 x1.mu.length e1_5) → Rd W (fun _ => True) (dStringS x1.cs) (.slice b1_6 x1.cs.length e1_6) → Calls Tryz.prog 6 #[.agg #[.slice b0_0 x0.tables.length e0_0], .agg #[.int .i64 x1.kd, .string ⟨x1.tb.toArray⟩, .string ⟨x1.nm.toArray⟩, .slice b1_3 x1.wh.length e1_3, .slice b1_4 x1.row.length e1_4, .slice b1_5 x1.mu.length e1_5, .slice b1_6 x1.cs.length e1_6, .bool x1.un]] W fun e w' => e = .returned (.tuple #[.int .i64 ((ocR x0.tables x1).1), .int .i64 ((ocR x0.tables x1).2)]) ∧ Below W.heap.size W w') := fun W b0_0 e0_0 b1_3 e1_3 b1_4 e1_4 b1_5 e1_5 b1_6 e1_6 h0_0 h1_3 h1_4 h1_5 h1_6 => opCodeS x0.tables b0_0 e0_0 _ x1 b1_3 e1_3 b1_4 e1_4 b1_5 e1_5 b1_6 e1_6 _ W HL0_0.out (HO1.out 1 (by omega)) (HO1.out 2 (by omega)) HL1_3.out HL1_4.out HL1_5.out HL1_6.out h0_0 h1_3 h1_4 h1_5 h1_6
  have CI : Hid (∀ (W : World) (b0_0 : Option Addr) (e0_0 : Nat) (b1_3 : Option Addr) (e1_3 : Nat) (b1_4 : Option Addr) (e1_4 : Nat) (b1_5 : Option Addr) (e1_5 : Nat) (b1_6 : Option Addr) (e1_6 : Nat), Rd W (fun _ => True) (dTableS x0.tables) (.slice b0_0 x0.tables.length e0_0) → Rd W (fun _ => True) (dCondS x1.wh) (.slice b1_3 x1.wh.length e1_3) → Rd W (fun _ => True) (dSetS x1.row) (.slice b1_4 x1.row.length e1_4) → Rd W (fun _ => True) (dMutS x1.mu) (.slice b1_5 x1.mu.length e1_5) → Rd W (fun _ => True) (dStringS x1.cs) (.slice b1_6 x1.cs.length e1_6) → e1_4 = x1.row.length → Calls Tryz.prog 9 #[.agg #[.slice b0_0 x0.tables.length e0_0], .agg #[.int .i64 x1.kd, .string ⟨x1.tb.toArray⟩, .string ⟨x1.nm.toArray⟩, .slice b1_3 x1.wh.length e1_3, .slice b1_4 x1.row.length e1_4, .slice b1_5 x1.mu.length e1_5, .slice b1_6 x1.cs.length e1_6, .bool x1.un]] W fun e w' => e = .returned (.tuple #[.int .i64 ((ocR x0.tables x1).1), .int .i64 ((ocR x0.tables x1).2)]) ∧ Below W.heap.size W w') := fun W b0_0 e0_0 b1_3 e1_3 b1_4 e1_4 b1_5 e1_5 b1_6 e1_6 h0_0 h1_3 h1_4 h1_5 h1_6 hc1_4 => opCodeI x0.tables b0_0 e0_0 _ x1 b1_3 e1_3 b1_4 e1_4 b1_5 e1_5 b1_6 e1_6 _ W HL0_0.out (HO1.out 1 (by omega)) (HO1.out 2 (by omega)) HL1_3.out HL1_4.out HL1_5.out HL1_6.out (Nat.le_of_eq hc1_4.symm) h0_0 h1_3 h1_4 h1_5 h1_6
  have nq0 := bne_self_eq_false ((ocR x0.tables x1).1)
  generalize ((ocR x0.tables x1).1) = R0 at *
  have nq1 := bne_self_eq_false ((ocR x0.tables x1).2)
  generalize ((ocR x0.tables x1).2) = R1 at *
  have EQ0 : Hid (∀ (W : World) (b0 : Option Addr) (e0 : Nat) (f0 : Option Addr) (g0 : Nat), Rd W (fun _ => True) (dTableS x0.tables) (.slice b0 x0.tables.length e0) → Rd W (fun _ => True) (dTableS x0.tables) (.slice f0 x0.tables.length g0) → Calls Tryz.prog 10 #[.agg #[.slice b0 x0.tables.length e0], .agg #[.slice f0 x0.tables.length g0]] W fun e w' => e = .returned (.bool true) ∧ Below W.heap.size W w') := fun W b0 e0 f0 g0 h0 i0 => eqDSchema x0 b0 e0 f0 g0 _ _ W HO0.out h0 i0
  have EQ1 : Hid (∀ (W : World) (b3 : Option Addr) (e3 : Nat) (f3 : Option Addr) (g3 : Nat) (b4 : Option Addr) (e4 : Nat) (f4 : Option Addr) (g4 : Nat) (b5 : Option Addr) (e5 : Nat) (f5 : Option Addr) (g5 : Nat) (b6 : Option Addr) (e6 : Nat) (f6 : Option Addr) (g6 : Nat), Rd W (fun _ => True) (dCondS x1.wh) (.slice b3 x1.wh.length e3) → Rd W (fun _ => True) (dSetS x1.row) (.slice b4 x1.row.length e4) → Rd W (fun _ => True) (dMutS x1.mu) (.slice b5 x1.mu.length e5) → Rd W (fun _ => True) (dStringS x1.cs) (.slice b6 x1.cs.length e6) → Rd W (fun _ => True) (dCondS x1.wh) (.slice f3 x1.wh.length g3) → Rd W (fun _ => True) (dSetS x1.row) (.slice f4 x1.row.length g4) → Rd W (fun _ => True) (dMutS x1.mu) (.slice f5 x1.mu.length g5) → Rd W (fun _ => True) (dStringS x1.cs) (.slice f6 x1.cs.length g6) → Calls Tryz.prog 11 #[.agg #[.int .i64 x1.kd, .string ⟨x1.tb.toArray⟩, .string ⟨x1.nm.toArray⟩, .slice b3 x1.wh.length e3, .slice b4 x1.row.length e4, .slice b5 x1.mu.length e5, .slice b6 x1.cs.length e6, .bool x1.un], .agg #[.int .i64 x1.kd, .string ⟨x1.tb.toArray⟩, .string ⟨x1.nm.toArray⟩, .slice f3 x1.wh.length g3, .slice f4 x1.row.length g4, .slice f5 x1.mu.length g5, .slice f6 x1.cs.length g6, .bool x1.un]] W fun e w' => e = .returned (.bool true) ∧ Below W.heap.size W w') := fun W b3 e3 f3 g3 b4 e4 f4 g4 b5 e5 f5 g5 b6 e6 f6 g6 h3 h4 h5 h6 i3 i4 i5 i6 => eqDOp x1 b3 e3 b4 e4 b5 e5 b6 e6 f3 g3 f4 g4 f5 g5 f6 g6 _ _ W HO1.out h3 h4 h5 h6 i3 i4 i5 i6
  have CE : Hid (∀ W, (Below w.heap.size w W ∧ W.heap[w.heap.size]? = some (.cells #[.slice a0_0 x0.tables.length c0_0] 24) ∧ W.heap[w.heap.size + 1]? = some (.cells #[.int .i64 x1.kd, .string ⟨x1.tb.toArray⟩, .string ⟨x1.nm.toArray⟩, .slice a1_3 x1.wh.length c1_3, .slice a1_4 x1.row.length c1_4, .slice a1_5 x1.mu.length c1_5, .slice a1_6 x1.cs.length c1_6, .bool x1.un] 30)) → (W.cell? ⟨w.heap.size, 0, none⟩ = some (.slice a0_0 x0.tables.length c0_0) ∧ W.cell? ⟨w.heap.size + 1, 0, none⟩ = some (.int .i64 x1.kd) ∧ W.cell? ⟨w.heap.size + 1, 1, none⟩ = some (.string ⟨x1.tb.toArray⟩) ∧ W.cell? ⟨w.heap.size + 1, 2, none⟩ = some (.string ⟨x1.nm.toArray⟩) ∧ W.cell? ⟨w.heap.size + 1, 3, none⟩ = some (.slice a1_3 x1.wh.length c1_3) ∧ W.cell? ⟨w.heap.size + 1, 4, none⟩ = some (.slice a1_4 x1.row.length c1_4) ∧ W.cell? ⟨w.heap.size + 1, 5, none⟩ = some (.slice a1_5 x1.mu.length c1_5) ∧ W.cell? ⟨w.heap.size + 1, 6, none⟩ = some (.slice a1_6 x1.cs.length c1_6) ∧ W.cell? ⟨w.heap.size + 1, 7, none⟩ = some (.bool x1.un))) := fun W h => ⟨cell_at (o := 0) h.2.1 rfl, cell_at (o := 0) h.2.2 rfl, cell_at (o := 1) h.2.2 rfl, cell_at (o := 2) h.2.2 rfl, cell_at (o := 3) h.2.2 rfl, cell_at (o := 4) h.2.2 rfl, cell_at (o := 5) h.2.2 rfl, cell_at (o := 6) h.2.2 rfl, cell_at (o := 7) h.2.2 rfl⟩
  have hx := AS1.out
  refine wp_region_held_drew (S := (fun W => W.cell? ⟨w.heap.size, 0, none⟩ = some (.slice a0_0 x0.tables.length c0_0) ∧ W.cell? ⟨w.heap.size + 1, 0, none⟩ = some (.int .i64 x1.kd) ∧ W.cell? ⟨w.heap.size + 1, 1, none⟩ = some (.string ⟨x1.tb.toArray⟩) ∧ W.cell? ⟨w.heap.size + 1, 2, none⟩ = some (.string ⟨x1.nm.toArray⟩) ∧ W.cell? ⟨w.heap.size + 1, 3, none⟩ = some (.slice a1_3 x1.wh.length c1_3) ∧ W.cell? ⟨w.heap.size + 1, 4, none⟩ = some (.slice a1_4 x1.row.length c1_4) ∧ W.cell? ⟨w.heap.size + 1, 5, none⟩ = some (.slice a1_5 x1.mu.length c1_5) ∧ W.cell? ⟨w.heap.size + 1, 6, none⟩ = some (.slice a1_6 x1.cs.length c1_6) ∧ W.cell? ⟨w.heap.size + 1, 7, none⟩ = some (.bool x1.un))) (by kernel_rfl) ?_ (fun hHeld => ?_)
  · (first | exact CE.out _ hx | exact CE.out _ (ALAT.out _ _ hx (Below.refl _ _).drew))
  refine tkA (i := 0) (v := ?_) rfl ?_ ?_
  rotate_left
  · (intro wS hSw; (try dsimp only at hSw); go_simp <;> with_reducible rfl)
  try simp only [Act.put, tkS]
  refine tkA (i := 2) (v := ?_) rfl ?_ ?_
  rotate_left
  · (intro wS hSw; (try dsimp only at hSw); go_simp <;> with_reducible rfl)
  try simp only [Act.put, tkS]
  refine wpAnyH_ready (rs := [1]) (by kernel_rfl) (by simp) (AllReadyH.cons rfl (fun K hK => ?_) AllReadyH.nil)
  go_simp
  (go_at_call 7; refine (TO0.out _ (by first | exact hx | exact ALAT.out _ _ hx (Below.refl _ _).drew)).mono ?_; rintro e wt0 ⟨p0_0, rfl, ho0, hB0, hA0⟩; clear hx; have hx := hA0; clear hA0; have RC0_0 : Hid (Rd _ (fun _ => True) (dTableS x0.tables) (.slice (some ⟨p0_0, 0, none⟩) x0.tables.length x0.tables.length)) := (Owns.one ho0 (j := 0) (by omega)).rd'.any; clear ho0; clear hB0)
  refine hK.out _ _ ?_ (fun hHeld => ?_)
  · (first | exact CE.out _ hx | exact CE.out _ (ALAT.out _ _ hx (Below.refl _ _).drew))
  clear hK K
  try simp only [Act.put, tkS]
  refine wpAnyH_ready (rs := [3]) (by kernel_rfl) (by simp) (AllReadyH.cons rfl (fun K hK => ?_) AllReadyH.nil)
  go_simp
  (go_at_call 8; refine (TO1.out _ (by first | exact hx | exact ALAT.out _ _ hx (Below.refl _ _).drew)).mono ?_; rintro e wt1 ⟨p1_3, p1_4, p1_5, p1_6, rfl, ho1, hB1, hA1⟩; clear hx; have hx := hA1; clear hA1; have RC1_3 : Hid (Rd _ (fun _ => True) (dCondS x1.wh) (.slice (some ⟨p1_3, 0, none⟩) x1.wh.length x1.wh.length)) := (Owns.one ho1 (j := 3) (by omega)).rd'.any; have RC1_4 : Hid (Rd _ (fun _ => True) (dSetS x1.row) (.slice (some ⟨p1_4, 0, none⟩) x1.row.length x1.row.length)) := (Owns.one ho1 (j := 4) (by omega)).rd'.any; have RC1_5 : Hid (Rd _ (fun _ => True) (dMutS x1.mu) (.slice (some ⟨p1_5, 0, none⟩) x1.mu.length x1.mu.length)) := (Owns.one ho1 (j := 5) (by omega)).rd'.any; have RC1_6 : Hid (Rd _ (fun _ => True) (dStringS x1.cs) (.slice (some ⟨p1_6, 0, none⟩) x1.cs.length x1.cs.length)) := (Owns.one ho1 (j := 6) (by omega)).rd'.any; have RE0_0 := Lib.hid (Rd.later RC0_0.out (by first | exact hB1 | exact (Below.refl _ _).drew.trans hB1)); clear RC0_0; have RC0_0 := RE0_0; clear RE0_0; clear ho1; clear hB1)
  refine hK.out _ _ ?_ (fun hHeld => ?_)
  · (first | exact CE.out _ hx | exact CE.out _ (ALAT.out _ _ hx (Below.refl _ _).drew))
  clear hK K
  try simp only [Act.put, tkS]
  refine wpAnyH_ready (rs := [4]) (by kernel_rfl) (by simp) (AllReadyH.cons rfl (fun K hK => ?_) AllReadyH.nil)
  go_simp
  (go_at_call 6; refine (CS.out _ _ _ _ _ _ _ _ _ _ _ (by first | exact RC0_0.out | exact RC0_0.out.later (Below.refl _ _).drew) (by first | exact RC1_3.out | exact RC1_3.out.later (Below.refl _ _).drew) (by first | exact RC1_4.out | exact RC1_4.out.later (Below.refl _ _).drew) (by first | exact RC1_5.out | exact RC1_5.out.later (Below.refl _ _).drew) (by first | exact RC1_6.out | exact RC1_6.out.later (Below.refl _ _).drew)).mono ?_; rintro e w2 ⟨rfl, hB2⟩; have h2 := ALAT.out _ _ hx (by first | exact hB2 | exact (Below.refl _ _).drew.trans hB2); clear hx hB2; have hx := h2; clear h2)
  refine hK.out _ _ ?_ (fun hHeld => ?_)
  · (first | exact CE.out _ hx | exact CE.out _ (ALAT.out _ _ hx (Below.refl _ _).drew))
  clear hK K
  try simp only [Act.put, tkS]
  refine tkA (i := 5) (v := ?_) rfl ?_ ?_
  rotate_left
  · (intro wS hSw; (try dsimp only at hSw); go_simp <;> with_reducible rfl)
  try simp only [Act.put, tkS]
  refine tkA (i := 6) (v := ?_) rfl ?_ ?_
  rotate_left
  · (intro wS hSw; (try dsimp only at hSw); go_simp <;> with_reducible rfl)
  try simp only [Act.put, tkS]
  refine tkA (i := 7) (v := ?_) rfl ?_ ?_
  rotate_left
  · (intro wS hSw; (try dsimp only at hSw); go_simp <;> with_reducible rfl)
  try simp only [Act.put, tkS]
  refine tkA (i := 8) (v := ?_) rfl ?_ ?_
  rotate_left
  · (intro wS hSw; (try dsimp only at hSw); go_simp <;> with_reducible rfl)
  try simp only [Act.put, tkS]
  refine tkA (i := 9) (v := ?_) rfl ?_ ?_
  rotate_left
  · (intro wS hSw; (try dsimp only at hSw); go_simp <;> with_reducible rfl)
  try simp only [Act.put, tkS]
  refine wpAnyH_done (by kernel_rfl) ?_ _
  clear AS1
  have A2 := Lib.hid hx
  clear hx x0_0 x1_0 x1_1 x1_2 x1_3 x1_4 x1_5 x1_6 x1_7 RC0_0 RC1_3 RC1_4 RC1_5 RC1_6
  have x0_0 := cell_at (o := 0) A2.out.2.1 rfl
  have x1_0 := cell_at (o := 0) A2.out.2.2 rfl
  have x1_1 := cell_at (o := 1) A2.out.2.2 rfl
  have x1_2 := cell_at (o := 2) A2.out.2.2 rfl
  have x1_3 := cell_at (o := 3) A2.out.2.2 rfl
  have x1_4 := cell_at (o := 4) A2.out.2.2 rfl
  have x1_5 := cell_at (o := 5) A2.out.2.2 rfl
  have x1_6 := cell_at (o := 6) A2.out.2.2 rfl
  have x1_7 := cell_at (o := 7) A2.out.2.2 rfl
  go_wp2_with fail
  refine (TO0.out _ (by first | exact A2.out | exact ALAT.out _ _ A2.out (Below.refl _ _).drew)).mono ?_
  rintro e wx0 ⟨p0_0, rfl, ho, hB, hA⟩
  have XS0L : Hid (∀ W W', (Below w.heap.size w W ∧ W.heap[w.heap.size]? = some (.cells #[.slice a0_0 x0.tables.length c0_0] 24) ∧ W.heap[w.heap.size + 1]? = some (.cells #[.int .i64 x1.kd, .string ⟨x1.tb.toArray⟩, .string ⟨x1.nm.toArray⟩, .slice a1_3 x1.wh.length c1_3, .slice a1_4 x1.row.length c1_4, .slice a1_5 x1.mu.length c1_5, .slice a1_6 x1.cs.length c1_6, .bool x1.un] 30) ∧ W.heap[wx0.heap.size]? = some (.cells #[.slice (some ⟨p0_0, 0, none⟩) x0.tables.length x0.tables.length] 37) ∧ Rd W (fun _ => True) (dTableS x0.tables) (.slice (some ⟨p0_0, 0, none⟩) x0.tables.length x0.tables.length)) → Below W.heap.size W W' → (Below w.heap.size w W' ∧ W'.heap[w.heap.size]? = some (.cells #[.slice a0_0 x0.tables.length c0_0] 24) ∧ W'.heap[w.heap.size + 1]? = some (.cells #[.int .i64 x1.kd, .string ⟨x1.tb.toArray⟩, .string ⟨x1.nm.toArray⟩, .slice a1_3 x1.wh.length c1_3, .slice a1_4 x1.row.length c1_4, .slice a1_5 x1.mu.length c1_5, .slice a1_6 x1.cs.length c1_6, .bool x1.un] 30) ∧ W'.heap[wx0.heap.size]? = some (.cells #[.slice (some ⟨p0_0, 0, none⟩) x0.tables.length x0.tables.length] 37) ∧ Rd W' (fun _ => True) (dTableS x0.tables) (.slice (some ⟨p0_0, 0, none⟩) x0.tables.length x0.tables.length))) := fun W W' h hB => ⟨h.1.trans (hB.mono h.1.size), heap_keptD h.2.1 hB, heap_keptD h.2.2.1 hB, heap_keptD h.2.2.2.1 hB, h.2.2.2.2.later hB⟩
  have Y0 : Hid (Below w.heap.size w (wx0.alloc (.cells #[.slice (some ⟨p0_0, 0, none⟩) x0.tables.length x0.tables.length] 37)) ∧ (wx0.alloc (.cells #[.slice (some ⟨p0_0, 0, none⟩) x0.tables.length x0.tables.length] 37)).heap[w.heap.size]? = some (.cells #[.slice a0_0 x0.tables.length c0_0] 24) ∧ (wx0.alloc (.cells #[.slice (some ⟨p0_0, 0, none⟩) x0.tables.length x0.tables.length] 37)).heap[w.heap.size + 1]? = some (.cells #[.int .i64 x1.kd, .string ⟨x1.tb.toArray⟩, .string ⟨x1.nm.toArray⟩, .slice a1_3 x1.wh.length c1_3, .slice a1_4 x1.row.length c1_4, .slice a1_5 x1.mu.length c1_5, .slice a1_6 x1.cs.length c1_6, .bool x1.un] 30) ∧ (wx0.alloc (.cells #[.slice (some ⟨p0_0, 0, none⟩) x0.tables.length x0.tables.length] 37)).heap[wx0.heap.size]? = some (.cells #[.slice (some ⟨p0_0, 0, none⟩) x0.tables.length x0.tables.length] 37) ∧ Rd (wx0.alloc (.cells #[.slice (some ⟨p0_0, 0, none⟩) x0.tables.length x0.tables.length] 37)) (fun _ => True) (dTableS x0.tables) (.slice (some ⟨p0_0, 0, none⟩) x0.tables.length x0.tables.length)) := ⟨hA.1.trans ((below_allocD _ _).mono hA.1.size), heap_keptD hA.2.1 (below_allocD _ _), heap_keptD hA.2.2 (below_allocD _ _), heap_newD _ _, Rd.later ((Owns.one ho (j := 0) (by omega)).rd'.any) (below_allocD _ _)⟩
  clear hB hA ho A2 x0_0 x1_0 x1_1 x1_2 x1_3 x1_4 x1_5 x1_6 x1_7
  have x0_0 := cell_at (o := 0) Y0.out.2.1 rfl
  have x1_0 := cell_at (o := 0) Y0.out.2.2.1 rfl
  have x1_1 := cell_at (o := 1) Y0.out.2.2.1 rfl
  have x1_2 := cell_at (o := 2) Y0.out.2.2.1 rfl
  have x1_3 := cell_at (o := 3) Y0.out.2.2.1 rfl
  have x1_4 := cell_at (o := 4) Y0.out.2.2.1 rfl
  have x1_5 := cell_at (o := 5) Y0.out.2.2.1 rfl
  have x1_6 := cell_at (o := 6) Y0.out.2.2.1 rfl
  have x1_7 := cell_at (o := 7) Y0.out.2.2.1 rfl
  have y0_0 := cell_at (o := 0) Y0.out.2.2.2.1 rfl
  go_wp2_with fail
  refine (TO1.out _ ⟨Y0.out.1, Y0.out.2.1, Y0.out.2.2.1⟩).mono ?_
  rintro e wx1 ⟨p1_3, p1_4, p1_5, p1_6, rfl, ho, hB, hA⟩
  have XO := XS0L.out _ _ Y0.out hB
  have XS1L : Hid (∀ W W', (Below w.heap.size w W ∧ W.heap[w.heap.size]? = some (.cells #[.slice a0_0 x0.tables.length c0_0] 24) ∧ W.heap[w.heap.size + 1]? = some (.cells #[.int .i64 x1.kd, .string ⟨x1.tb.toArray⟩, .string ⟨x1.nm.toArray⟩, .slice a1_3 x1.wh.length c1_3, .slice a1_4 x1.row.length c1_4, .slice a1_5 x1.mu.length c1_5, .slice a1_6 x1.cs.length c1_6, .bool x1.un] 30) ∧ W.heap[wx0.heap.size]? = some (.cells #[.slice (some ⟨p0_0, 0, none⟩) x0.tables.length x0.tables.length] 37) ∧ Rd W (fun _ => True) (dTableS x0.tables) (.slice (some ⟨p0_0, 0, none⟩) x0.tables.length x0.tables.length) ∧ W.heap[wx1.heap.size]? = some (.cells #[.int .i64 x1.kd, .string ⟨x1.tb.toArray⟩, .string ⟨x1.nm.toArray⟩, .slice (some ⟨p1_3, 0, none⟩) x1.wh.length x1.wh.length, .slice (some ⟨p1_4, 0, none⟩) x1.row.length x1.row.length, .slice (some ⟨p1_5, 0, none⟩) x1.mu.length x1.mu.length, .slice (some ⟨p1_6, 0, none⟩) x1.cs.length x1.cs.length, .bool x1.un] 43) ∧ Rd W (fun _ => True) (dCondS x1.wh) (.slice (some ⟨p1_3, 0, none⟩) x1.wh.length x1.wh.length) ∧ Rd W (fun _ => True) (dSetS x1.row) (.slice (some ⟨p1_4, 0, none⟩) x1.row.length x1.row.length) ∧ Rd W (fun _ => True) (dMutS x1.mu) (.slice (some ⟨p1_5, 0, none⟩) x1.mu.length x1.mu.length) ∧ Rd W (fun _ => True) (dStringS x1.cs) (.slice (some ⟨p1_6, 0, none⟩) x1.cs.length x1.cs.length)) → Below W.heap.size W W' → (Below w.heap.size w W' ∧ W'.heap[w.heap.size]? = some (.cells #[.slice a0_0 x0.tables.length c0_0] 24) ∧ W'.heap[w.heap.size + 1]? = some (.cells #[.int .i64 x1.kd, .string ⟨x1.tb.toArray⟩, .string ⟨x1.nm.toArray⟩, .slice a1_3 x1.wh.length c1_3, .slice a1_4 x1.row.length c1_4, .slice a1_5 x1.mu.length c1_5, .slice a1_6 x1.cs.length c1_6, .bool x1.un] 30) ∧ W'.heap[wx0.heap.size]? = some (.cells #[.slice (some ⟨p0_0, 0, none⟩) x0.tables.length x0.tables.length] 37) ∧ Rd W' (fun _ => True) (dTableS x0.tables) (.slice (some ⟨p0_0, 0, none⟩) x0.tables.length x0.tables.length) ∧ W'.heap[wx1.heap.size]? = some (.cells #[.int .i64 x1.kd, .string ⟨x1.tb.toArray⟩, .string ⟨x1.nm.toArray⟩, .slice (some ⟨p1_3, 0, none⟩) x1.wh.length x1.wh.length, .slice (some ⟨p1_4, 0, none⟩) x1.row.length x1.row.length, .slice (some ⟨p1_5, 0, none⟩) x1.mu.length x1.mu.length, .slice (some ⟨p1_6, 0, none⟩) x1.cs.length x1.cs.length, .bool x1.un] 43) ∧ Rd W' (fun _ => True) (dCondS x1.wh) (.slice (some ⟨p1_3, 0, none⟩) x1.wh.length x1.wh.length) ∧ Rd W' (fun _ => True) (dSetS x1.row) (.slice (some ⟨p1_4, 0, none⟩) x1.row.length x1.row.length) ∧ Rd W' (fun _ => True) (dMutS x1.mu) (.slice (some ⟨p1_5, 0, none⟩) x1.mu.length x1.mu.length) ∧ Rd W' (fun _ => True) (dStringS x1.cs) (.slice (some ⟨p1_6, 0, none⟩) x1.cs.length x1.cs.length))) := fun W W' h hB => ⟨h.1.trans (hB.mono h.1.size), heap_keptD h.2.1 hB, heap_keptD h.2.2.1 hB, heap_keptD h.2.2.2.1 hB, h.2.2.2.2.1.later hB, heap_keptD h.2.2.2.2.2.1 hB, h.2.2.2.2.2.2.1.later hB, h.2.2.2.2.2.2.2.1.later hB, h.2.2.2.2.2.2.2.2.1.later hB, h.2.2.2.2.2.2.2.2.2.later hB⟩
  have Y1 : Hid (Below w.heap.size w (wx1.alloc (.cells #[.int .i64 x1.kd, .string ⟨x1.tb.toArray⟩, .string ⟨x1.nm.toArray⟩, .slice (some ⟨p1_3, 0, none⟩) x1.wh.length x1.wh.length, .slice (some ⟨p1_4, 0, none⟩) x1.row.length x1.row.length, .slice (some ⟨p1_5, 0, none⟩) x1.mu.length x1.mu.length, .slice (some ⟨p1_6, 0, none⟩) x1.cs.length x1.cs.length, .bool x1.un] 43)) ∧ (wx1.alloc (.cells #[.int .i64 x1.kd, .string ⟨x1.tb.toArray⟩, .string ⟨x1.nm.toArray⟩, .slice (some ⟨p1_3, 0, none⟩) x1.wh.length x1.wh.length, .slice (some ⟨p1_4, 0, none⟩) x1.row.length x1.row.length, .slice (some ⟨p1_5, 0, none⟩) x1.mu.length x1.mu.length, .slice (some ⟨p1_6, 0, none⟩) x1.cs.length x1.cs.length, .bool x1.un] 43)).heap[w.heap.size]? = some (.cells #[.slice a0_0 x0.tables.length c0_0] 24) ∧ (wx1.alloc (.cells #[.int .i64 x1.kd, .string ⟨x1.tb.toArray⟩, .string ⟨x1.nm.toArray⟩, .slice (some ⟨p1_3, 0, none⟩) x1.wh.length x1.wh.length, .slice (some ⟨p1_4, 0, none⟩) x1.row.length x1.row.length, .slice (some ⟨p1_5, 0, none⟩) x1.mu.length x1.mu.length, .slice (some ⟨p1_6, 0, none⟩) x1.cs.length x1.cs.length, .bool x1.un] 43)).heap[w.heap.size + 1]? = some (.cells #[.int .i64 x1.kd, .string ⟨x1.tb.toArray⟩, .string ⟨x1.nm.toArray⟩, .slice a1_3 x1.wh.length c1_3, .slice a1_4 x1.row.length c1_4, .slice a1_5 x1.mu.length c1_5, .slice a1_6 x1.cs.length c1_6, .bool x1.un] 30) ∧ (wx1.alloc (.cells #[.int .i64 x1.kd, .string ⟨x1.tb.toArray⟩, .string ⟨x1.nm.toArray⟩, .slice (some ⟨p1_3, 0, none⟩) x1.wh.length x1.wh.length, .slice (some ⟨p1_4, 0, none⟩) x1.row.length x1.row.length, .slice (some ⟨p1_5, 0, none⟩) x1.mu.length x1.mu.length, .slice (some ⟨p1_6, 0, none⟩) x1.cs.length x1.cs.length, .bool x1.un] 43)).heap[wx0.heap.size]? = some (.cells #[.slice (some ⟨p0_0, 0, none⟩) x0.tables.length x0.tables.length] 37) ∧ Rd (wx1.alloc (.cells #[.int .i64 x1.kd, .string ⟨x1.tb.toArray⟩, .string ⟨x1.nm.toArray⟩, .slice (some ⟨p1_3, 0, none⟩) x1.wh.length x1.wh.length, .slice (some ⟨p1_4, 0, none⟩) x1.row.length x1.row.length, .slice (some ⟨p1_5, 0, none⟩) x1.mu.length x1.mu.length, .slice (some ⟨p1_6, 0, none⟩) x1.cs.length x1.cs.length, .bool x1.un] 43)) (fun _ => True) (dTableS x0.tables) (.slice (some ⟨p0_0, 0, none⟩) x0.tables.length x0.tables.length) ∧ (wx1.alloc (.cells #[.int .i64 x1.kd, .string ⟨x1.tb.toArray⟩, .string ⟨x1.nm.toArray⟩, .slice (some ⟨p1_3, 0, none⟩) x1.wh.length x1.wh.length, .slice (some ⟨p1_4, 0, none⟩) x1.row.length x1.row.length, .slice (some ⟨p1_5, 0, none⟩) x1.mu.length x1.mu.length, .slice (some ⟨p1_6, 0, none⟩) x1.cs.length x1.cs.length, .bool x1.un] 43)).heap[wx1.heap.size]? = some (.cells #[.int .i64 x1.kd, .string ⟨x1.tb.toArray⟩, .string ⟨x1.nm.toArray⟩, .slice (some ⟨p1_3, 0, none⟩) x1.wh.length x1.wh.length, .slice (some ⟨p1_4, 0, none⟩) x1.row.length x1.row.length, .slice (some ⟨p1_5, 0, none⟩) x1.mu.length x1.mu.length, .slice (some ⟨p1_6, 0, none⟩) x1.cs.length x1.cs.length, .bool x1.un] 43) ∧ Rd (wx1.alloc (.cells #[.int .i64 x1.kd, .string ⟨x1.tb.toArray⟩, .string ⟨x1.nm.toArray⟩, .slice (some ⟨p1_3, 0, none⟩) x1.wh.length x1.wh.length, .slice (some ⟨p1_4, 0, none⟩) x1.row.length x1.row.length, .slice (some ⟨p1_5, 0, none⟩) x1.mu.length x1.mu.length, .slice (some ⟨p1_6, 0, none⟩) x1.cs.length x1.cs.length, .bool x1.un] 43)) (fun _ => True) (dCondS x1.wh) (.slice (some ⟨p1_3, 0, none⟩) x1.wh.length x1.wh.length) ∧ Rd (wx1.alloc (.cells #[.int .i64 x1.kd, .string ⟨x1.tb.toArray⟩, .string ⟨x1.nm.toArray⟩, .slice (some ⟨p1_3, 0, none⟩) x1.wh.length x1.wh.length, .slice (some ⟨p1_4, 0, none⟩) x1.row.length x1.row.length, .slice (some ⟨p1_5, 0, none⟩) x1.mu.length x1.mu.length, .slice (some ⟨p1_6, 0, none⟩) x1.cs.length x1.cs.length, .bool x1.un] 43)) (fun _ => True) (dSetS x1.row) (.slice (some ⟨p1_4, 0, none⟩) x1.row.length x1.row.length) ∧ Rd (wx1.alloc (.cells #[.int .i64 x1.kd, .string ⟨x1.tb.toArray⟩, .string ⟨x1.nm.toArray⟩, .slice (some ⟨p1_3, 0, none⟩) x1.wh.length x1.wh.length, .slice (some ⟨p1_4, 0, none⟩) x1.row.length x1.row.length, .slice (some ⟨p1_5, 0, none⟩) x1.mu.length x1.mu.length, .slice (some ⟨p1_6, 0, none⟩) x1.cs.length x1.cs.length, .bool x1.un] 43)) (fun _ => True) (dMutS x1.mu) (.slice (some ⟨p1_5, 0, none⟩) x1.mu.length x1.mu.length) ∧ Rd (wx1.alloc (.cells #[.int .i64 x1.kd, .string ⟨x1.tb.toArray⟩, .string ⟨x1.nm.toArray⟩, .slice (some ⟨p1_3, 0, none⟩) x1.wh.length x1.wh.length, .slice (some ⟨p1_4, 0, none⟩) x1.row.length x1.row.length, .slice (some ⟨p1_5, 0, none⟩) x1.mu.length x1.mu.length, .slice (some ⟨p1_6, 0, none⟩) x1.cs.length x1.cs.length, .bool x1.un] 43)) (fun _ => True) (dStringS x1.cs) (.slice (some ⟨p1_6, 0, none⟩) x1.cs.length x1.cs.length)) := ⟨XO.1.trans ((below_allocD _ _).mono XO.1.size), heap_keptD XO.2.1 (below_allocD _ _), heap_keptD XO.2.2.1 (below_allocD _ _), heap_keptD XO.2.2.2.1 (below_allocD _ _), XO.2.2.2.2.later (below_allocD _ _), heap_newD _ _, Rd.later ((Owns.one ho (j := 3) (by omega)).rd'.any) (below_allocD _ _), Rd.later ((Owns.one ho (j := 4) (by omega)).rd'.any) (below_allocD _ _), Rd.later ((Owns.one ho (j := 5) (by omega)).rd'.any) (below_allocD _ _), Rd.later ((Owns.one ho (j := 6) (by omega)).rd'.any) (below_allocD _ _)⟩
  clear hB hA ho XO Y0 XS0L x0_0 x1_0 x1_1 x1_2 x1_3 x1_4 x1_5 x1_6 x1_7 y0_0
  have x0_0 := cell_at (o := 0) Y1.out.2.1 rfl
  have x1_0 := cell_at (o := 0) Y1.out.2.2.1 rfl
  have x1_1 := cell_at (o := 1) Y1.out.2.2.1 rfl
  have x1_2 := cell_at (o := 2) Y1.out.2.2.1 rfl
  have x1_3 := cell_at (o := 3) Y1.out.2.2.1 rfl
  have x1_4 := cell_at (o := 4) Y1.out.2.2.1 rfl
  have x1_5 := cell_at (o := 5) Y1.out.2.2.1 rfl
  have x1_6 := cell_at (o := 6) Y1.out.2.2.1 rfl
  have x1_7 := cell_at (o := 7) Y1.out.2.2.1 rfl
  have y0_0 := cell_at (o := 0) Y1.out.2.2.2.1 rfl
  have y1_0 := cell_at (o := 0) Y1.out.2.2.2.2.2.1 rfl
  have y1_1 := cell_at (o := 1) Y1.out.2.2.2.2.2.1 rfl
  have y1_2 := cell_at (o := 2) Y1.out.2.2.2.2.2.1 rfl
  have y1_3 := cell_at (o := 3) Y1.out.2.2.2.2.2.1 rfl
  have y1_4 := cell_at (o := 4) Y1.out.2.2.2.2.2.1 rfl
  have y1_5 := cell_at (o := 5) Y1.out.2.2.2.2.2.1 rfl
  have y1_6 := cell_at (o := 6) Y1.out.2.2.2.2.2.1 rfl
  have y1_7 := cell_at (o := 7) Y1.out.2.2.2.2.2.1 rfl
  go_wp2_with fail
  refine (CI.out _ _ _ _ _ _ _ _ _ _ _ Y1.out.2.2.2.2.1 Y1.out.2.2.2.2.2.2.1 Y1.out.2.2.2.2.2.2.2.1 Y1.out.2.2.2.2.2.2.2.2.1 Y1.out.2.2.2.2.2.2.2.2.2 rfl).mono ?_
  rintro e wg ⟨rfl, hB⟩
  have Z := Lib.hid (XS1L.out _ _ Y1.out hB)
  clear hB Y1 x0_0 x1_0 x1_1 x1_2 x1_3 x1_4 x1_5 x1_6 x1_7 y0_0 y1_0 y1_1 y1_2 y1_3 y1_4 y1_5 y1_6 y1_7
  have x0_0 := cell_at (o := 0) Z.out.2.1 rfl
  have x1_0 := cell_at (o := 0) Z.out.2.2.1 rfl
  have x1_1 := cell_at (o := 1) Z.out.2.2.1 rfl
  have x1_2 := cell_at (o := 2) Z.out.2.2.1 rfl
  have x1_3 := cell_at (o := 3) Z.out.2.2.1 rfl
  have x1_4 := cell_at (o := 4) Z.out.2.2.1 rfl
  have x1_5 := cell_at (o := 5) Z.out.2.2.1 rfl
  have x1_6 := cell_at (o := 6) Z.out.2.2.1 rfl
  have x1_7 := cell_at (o := 7) Z.out.2.2.1 rfl
  have y0_0 := cell_at (o := 0) Z.out.2.2.2.1 rfl
  have y1_0 := cell_at (o := 0) Z.out.2.2.2.2.2.1 rfl
  have y1_1 := cell_at (o := 1) Z.out.2.2.2.2.2.1 rfl
  have y1_2 := cell_at (o := 2) Z.out.2.2.2.2.2.1 rfl
  have y1_3 := cell_at (o := 3) Z.out.2.2.2.2.2.1 rfl
  have y1_4 := cell_at (o := 4) Z.out.2.2.2.2.2.1 rfl
  have y1_5 := cell_at (o := 5) Z.out.2.2.2.2.2.1 rfl
  have y1_6 := cell_at (o := 6) Z.out.2.2.2.2.2.1 rfl
  have y1_7 := cell_at (o := 7) Z.out.2.2.2.2.2.1 rfl
  go_wp2_with fail
  have CE0 : Hid (∀ W, (Below w.heap.size w W ∧ W.heap[w.heap.size]? = some (.cells #[.slice a0_0 x0.tables.length c0_0] 24) ∧ W.heap[w.heap.size + 1]? = some (.cells #[.int .i64 x1.kd, .string ⟨x1.tb.toArray⟩, .string ⟨x1.nm.toArray⟩, .slice a1_3 x1.wh.length c1_3, .slice a1_4 x1.row.length c1_4, .slice a1_5 x1.mu.length c1_5, .slice a1_6 x1.cs.length c1_6, .bool x1.un] 30) ∧ W.heap[wx0.heap.size]? = some (.cells #[.slice (some ⟨p0_0, 0, none⟩) x0.tables.length x0.tables.length] 37) ∧ Rd W (fun _ => True) (dTableS x0.tables) (.slice (some ⟨p0_0, 0, none⟩) x0.tables.length x0.tables.length) ∧ W.heap[wx1.heap.size]? = some (.cells #[.int .i64 x1.kd, .string ⟨x1.tb.toArray⟩, .string ⟨x1.nm.toArray⟩, .slice (some ⟨p1_3, 0, none⟩) x1.wh.length x1.wh.length, .slice (some ⟨p1_4, 0, none⟩) x1.row.length x1.row.length, .slice (some ⟨p1_5, 0, none⟩) x1.mu.length x1.mu.length, .slice (some ⟨p1_6, 0, none⟩) x1.cs.length x1.cs.length, .bool x1.un] 43) ∧ Rd W (fun _ => True) (dCondS x1.wh) (.slice (some ⟨p1_3, 0, none⟩) x1.wh.length x1.wh.length) ∧ Rd W (fun _ => True) (dSetS x1.row) (.slice (some ⟨p1_4, 0, none⟩) x1.row.length x1.row.length) ∧ Rd W (fun _ => True) (dMutS x1.mu) (.slice (some ⟨p1_5, 0, none⟩) x1.mu.length x1.mu.length) ∧ Rd W (fun _ => True) (dStringS x1.cs) (.slice (some ⟨p1_6, 0, none⟩) x1.cs.length x1.cs.length)) → (W.cell? ⟨w.heap.size, 0, none⟩ = some (.slice a0_0 x0.tables.length c0_0) ∧ W.cell? ⟨wx0.heap.size, 0, none⟩ = some (.slice (some ⟨p0_0, 0, none⟩) x0.tables.length x0.tables.length))) := fun W h => ⟨cell_at (o := 0) h.2.1 rfl, cell_at (o := 0) h.2.2.2.1 rfl⟩
  have hx := Z.out
  clear Z
  have XA : Hid (∀ W, (Below w.heap.size w W ∧ W.heap[w.heap.size]? = some (.cells #[.slice a0_0 x0.tables.length c0_0] 24) ∧ W.heap[w.heap.size + 1]? = some (.cells #[.int .i64 x1.kd, .string ⟨x1.tb.toArray⟩, .string ⟨x1.nm.toArray⟩, .slice a1_3 x1.wh.length c1_3, .slice a1_4 x1.row.length c1_4, .slice a1_5 x1.mu.length c1_5, .slice a1_6 x1.cs.length c1_6, .bool x1.un] 30) ∧ W.heap[wx0.heap.size]? = some (.cells #[.slice (some ⟨p0_0, 0, none⟩) x0.tables.length x0.tables.length] 37) ∧ Rd W (fun _ => True) (dTableS x0.tables) (.slice (some ⟨p0_0, 0, none⟩) x0.tables.length x0.tables.length) ∧ W.heap[wx1.heap.size]? = some (.cells #[.int .i64 x1.kd, .string ⟨x1.tb.toArray⟩, .string ⟨x1.nm.toArray⟩, .slice (some ⟨p1_3, 0, none⟩) x1.wh.length x1.wh.length, .slice (some ⟨p1_4, 0, none⟩) x1.row.length x1.row.length, .slice (some ⟨p1_5, 0, none⟩) x1.mu.length x1.mu.length, .slice (some ⟨p1_6, 0, none⟩) x1.cs.length x1.cs.length, .bool x1.un] 43) ∧ Rd W (fun _ => True) (dCondS x1.wh) (.slice (some ⟨p1_3, 0, none⟩) x1.wh.length x1.wh.length) ∧ Rd W (fun _ => True) (dSetS x1.row) (.slice (some ⟨p1_4, 0, none⟩) x1.row.length x1.row.length) ∧ Rd W (fun _ => True) (dMutS x1.mu) (.slice (some ⟨p1_5, 0, none⟩) x1.mu.length x1.mu.length) ∧ Rd W (fun _ => True) (dStringS x1.cs) (.slice (some ⟨p1_6, 0, none⟩) x1.cs.length x1.cs.length)) → (Below w.heap.size w W ∧ W.heap[w.heap.size]? = some (.cells #[.slice a0_0 x0.tables.length c0_0] 24) ∧ W.heap[w.heap.size + 1]? = some (.cells #[.int .i64 x1.kd, .string ⟨x1.tb.toArray⟩, .string ⟨x1.nm.toArray⟩, .slice a1_3 x1.wh.length c1_3, .slice a1_4 x1.row.length c1_4, .slice a1_5 x1.mu.length c1_5, .slice a1_6 x1.cs.length c1_6, .bool x1.un] 30))) := fun W h => ⟨h.1, h.2.1, h.2.2.1⟩
  refine wp_region_held_drew (S := (fun W => W.cell? ⟨w.heap.size, 0, none⟩ = some (.slice a0_0 x0.tables.length c0_0) ∧ W.cell? ⟨wx0.heap.size, 0, none⟩ = some (.slice (some ⟨p0_0, 0, none⟩) x0.tables.length x0.tables.length))) (by kernel_rfl) ?_ (fun hHeld => ?_)
  · (first | exact CE0.out _ hx | exact CE0.out _ (XS1L.out _ _ hx (Below.refl _ _).drew))
  refine tkA (i := 0) (v := ?_) rfl ?_ ?_
  rotate_left
  · (intro wS hSw; (try dsimp only at hSw); go_simp <;> with_reducible rfl)
  try simp only [Act.put, tkS]
  refine tkA (i := 1) (v := ?_) rfl ?_ ?_
  rotate_left
  · (intro wS hSw; (try dsimp only at hSw); go_simp <;> with_reducible rfl)
  try simp only [Act.put, tkS]
  refine wpAnyH_ready (rs := [2]) (by kernel_rfl) (by simp) (AllReadyH.cons rfl (fun K hK => ?_) AllReadyH.nil)
  go_simp
  (go_at_call 7; refine (TO0.out _ (by first | exact XA.out _ hx | exact XA.out _ (XS1L.out _ _ hx (Below.refl _ _).drew))).mono ?_; rintro e we0 ⟨s0_0, rfl, ho, hB, _⟩; have h2 : Below w.heap.size w we0 ∧ we0.heap[w.heap.size]? = some (.cells #[.slice a0_0 x0.tables.length c0_0] 24) ∧ we0.heap[w.heap.size + 1]? = some (.cells #[.int .i64 x1.kd, .string ⟨x1.tb.toArray⟩, .string ⟨x1.nm.toArray⟩, .slice a1_3 x1.wh.length c1_3, .slice a1_4 x1.row.length c1_4, .slice a1_5 x1.mu.length c1_5, .slice a1_6 x1.cs.length c1_6, .bool x1.un] 30) ∧ we0.heap[wx0.heap.size]? = some (.cells #[.slice (some ⟨p0_0, 0, none⟩) x0.tables.length x0.tables.length] 37) ∧ Rd we0 (fun _ => True) (dTableS x0.tables) (.slice (some ⟨p0_0, 0, none⟩) x0.tables.length x0.tables.length) ∧ we0.heap[wx1.heap.size]? = some (.cells #[.int .i64 x1.kd, .string ⟨x1.tb.toArray⟩, .string ⟨x1.nm.toArray⟩, .slice (some ⟨p1_3, 0, none⟩) x1.wh.length x1.wh.length, .slice (some ⟨p1_4, 0, none⟩) x1.row.length x1.row.length, .slice (some ⟨p1_5, 0, none⟩) x1.mu.length x1.mu.length, .slice (some ⟨p1_6, 0, none⟩) x1.cs.length x1.cs.length, .bool x1.un] 43) ∧ Rd we0 (fun _ => True) (dCondS x1.wh) (.slice (some ⟨p1_3, 0, none⟩) x1.wh.length x1.wh.length) ∧ Rd we0 (fun _ => True) (dSetS x1.row) (.slice (some ⟨p1_4, 0, none⟩) x1.row.length x1.row.length) ∧ Rd we0 (fun _ => True) (dMutS x1.mu) (.slice (some ⟨p1_5, 0, none⟩) x1.mu.length x1.mu.length) ∧ Rd we0 (fun _ => True) (dStringS x1.cs) (.slice (some ⟨p1_6, 0, none⟩) x1.cs.length x1.cs.length) := (by first | exact XS1L.out _ _ hx hB | exact XS1L.out _ _ (XS1L.out _ _ hx (Below.refl _ _).drew) hB); clear hx; have hx := h2; clear h2; have RE0_0 : Hid (Rd _ (fun _ => True) (dTableS x0.tables) (.slice (some ⟨s0_0, 0, none⟩) x0.tables.length x0.tables.length)) := (Owns.one ho (j := 0) (by omega)).rd'.any; clear hB ho)
  refine hK.out _ _ ?_ (fun hHeld => ?_)
  · (first | exact CE0.out _ hx | exact CE0.out _ (XS1L.out _ _ hx (Below.refl _ _).drew))
  clear hK K
  try simp only [Act.put, tkS]
  refine wpAnyH_ready (rs := [3]) (by kernel_rfl) (by simp) (AllReadyH.cons rfl (fun K hK => ?_) AllReadyH.nil)
  go_simp
  (go_at_call 10; refine (EQ0.out _ _ _ _ _ (by first | exact hx.2.2.2.2.1 | exact Rd.later hx.2.2.2.2.1 (Below.refl _ _).drew) (by first | exact RE0_0.out | exact Rd.later RE0_0.out (Below.refl _ _).drew)).mono ?_; rintro e wf0 ⟨rfl, hB⟩; have h2 : Below w.heap.size w wf0 ∧ wf0.heap[w.heap.size]? = some (.cells #[.slice a0_0 x0.tables.length c0_0] 24) ∧ wf0.heap[w.heap.size + 1]? = some (.cells #[.int .i64 x1.kd, .string ⟨x1.tb.toArray⟩, .string ⟨x1.nm.toArray⟩, .slice a1_3 x1.wh.length c1_3, .slice a1_4 x1.row.length c1_4, .slice a1_5 x1.mu.length c1_5, .slice a1_6 x1.cs.length c1_6, .bool x1.un] 30) ∧ wf0.heap[wx0.heap.size]? = some (.cells #[.slice (some ⟨p0_0, 0, none⟩) x0.tables.length x0.tables.length] 37) ∧ Rd wf0 (fun _ => True) (dTableS x0.tables) (.slice (some ⟨p0_0, 0, none⟩) x0.tables.length x0.tables.length) ∧ wf0.heap[wx1.heap.size]? = some (.cells #[.int .i64 x1.kd, .string ⟨x1.tb.toArray⟩, .string ⟨x1.nm.toArray⟩, .slice (some ⟨p1_3, 0, none⟩) x1.wh.length x1.wh.length, .slice (some ⟨p1_4, 0, none⟩) x1.row.length x1.row.length, .slice (some ⟨p1_5, 0, none⟩) x1.mu.length x1.mu.length, .slice (some ⟨p1_6, 0, none⟩) x1.cs.length x1.cs.length, .bool x1.un] 43) ∧ Rd wf0 (fun _ => True) (dCondS x1.wh) (.slice (some ⟨p1_3, 0, none⟩) x1.wh.length x1.wh.length) ∧ Rd wf0 (fun _ => True) (dSetS x1.row) (.slice (some ⟨p1_4, 0, none⟩) x1.row.length x1.row.length) ∧ Rd wf0 (fun _ => True) (dMutS x1.mu) (.slice (some ⟨p1_5, 0, none⟩) x1.mu.length x1.mu.length) ∧ Rd wf0 (fun _ => True) (dStringS x1.cs) (.slice (some ⟨p1_6, 0, none⟩) x1.cs.length x1.cs.length) := (by first | exact XS1L.out _ _ hx hB | exact XS1L.out _ _ (XS1L.out _ _ hx (Below.refl _ _).drew) hB); clear hx hB; have hx := h2; clear h2)
  refine hK.out _ _ ?_ (fun hHeld => ?_)
  · (first | exact CE0.out _ hx | exact CE0.out _ (XS1L.out _ _ hx (Below.refl _ _).drew))
  clear hK K
  try simp only [Act.put, tkS]
  refine tkA (i := 4) (v := ?_) rfl ?_ ?_
  rotate_left
  · (intro wS hSw; (try dsimp only at hSw); go_simp <;> with_reducible rfl)
  try simp only [Act.put, tkS]
  refine wpAnyH_done (by kernel_rfl) ?_ _
  clear x0_0 x1_0 x1_1 x1_2 x1_3 x1_4 x1_5 x1_6 x1_7 y0_0 y1_0 y1_1 y1_2 y1_3 y1_4 y1_5 y1_6 y1_7 RE0_0
  have x0_0 := cell_at (o := 0) hx.2.1 rfl
  have x1_0 := cell_at (o := 0) hx.2.2.1 rfl
  have x1_1 := cell_at (o := 1) hx.2.2.1 rfl
  have x1_2 := cell_at (o := 2) hx.2.2.1 rfl
  have x1_3 := cell_at (o := 3) hx.2.2.1 rfl
  have x1_4 := cell_at (o := 4) hx.2.2.1 rfl
  have x1_5 := cell_at (o := 5) hx.2.2.1 rfl
  have x1_6 := cell_at (o := 6) hx.2.2.1 rfl
  have x1_7 := cell_at (o := 7) hx.2.2.1 rfl
  have y0_0 := cell_at (o := 0) hx.2.2.2.1 rfl
  have y1_0 := cell_at (o := 0) hx.2.2.2.2.2.1 rfl
  have y1_1 := cell_at (o := 1) hx.2.2.2.2.2.1 rfl
  have y1_2 := cell_at (o := 2) hx.2.2.2.2.2.1 rfl
  have y1_3 := cell_at (o := 3) hx.2.2.2.2.2.1 rfl
  have y1_4 := cell_at (o := 4) hx.2.2.2.2.2.1 rfl
  have y1_5 := cell_at (o := 5) hx.2.2.2.2.2.1 rfl
  have y1_6 := cell_at (o := 6) hx.2.2.2.2.2.1 rfl
  have y1_7 := cell_at (o := 7) hx.2.2.2.2.2.1 rfl
  go_wp2_with fail
  have CE1 : Hid (∀ W, (Below w.heap.size w W ∧ W.heap[w.heap.size]? = some (.cells #[.slice a0_0 x0.tables.length c0_0] 24) ∧ W.heap[w.heap.size + 1]? = some (.cells #[.int .i64 x1.kd, .string ⟨x1.tb.toArray⟩, .string ⟨x1.nm.toArray⟩, .slice a1_3 x1.wh.length c1_3, .slice a1_4 x1.row.length c1_4, .slice a1_5 x1.mu.length c1_5, .slice a1_6 x1.cs.length c1_6, .bool x1.un] 30) ∧ W.heap[wx0.heap.size]? = some (.cells #[.slice (some ⟨p0_0, 0, none⟩) x0.tables.length x0.tables.length] 37) ∧ Rd W (fun _ => True) (dTableS x0.tables) (.slice (some ⟨p0_0, 0, none⟩) x0.tables.length x0.tables.length) ∧ W.heap[wx1.heap.size]? = some (.cells #[.int .i64 x1.kd, .string ⟨x1.tb.toArray⟩, .string ⟨x1.nm.toArray⟩, .slice (some ⟨p1_3, 0, none⟩) x1.wh.length x1.wh.length, .slice (some ⟨p1_4, 0, none⟩) x1.row.length x1.row.length, .slice (some ⟨p1_5, 0, none⟩) x1.mu.length x1.mu.length, .slice (some ⟨p1_6, 0, none⟩) x1.cs.length x1.cs.length, .bool x1.un] 43) ∧ Rd W (fun _ => True) (dCondS x1.wh) (.slice (some ⟨p1_3, 0, none⟩) x1.wh.length x1.wh.length) ∧ Rd W (fun _ => True) (dSetS x1.row) (.slice (some ⟨p1_4, 0, none⟩) x1.row.length x1.row.length) ∧ Rd W (fun _ => True) (dMutS x1.mu) (.slice (some ⟨p1_5, 0, none⟩) x1.mu.length x1.mu.length) ∧ Rd W (fun _ => True) (dStringS x1.cs) (.slice (some ⟨p1_6, 0, none⟩) x1.cs.length x1.cs.length)) → (W.cell? ⟨w.heap.size + 1, 0, none⟩ = some (.int .i64 x1.kd) ∧ W.cell? ⟨w.heap.size + 1, 1, none⟩ = some (.string ⟨x1.tb.toArray⟩) ∧ W.cell? ⟨w.heap.size + 1, 2, none⟩ = some (.string ⟨x1.nm.toArray⟩) ∧ W.cell? ⟨w.heap.size + 1, 3, none⟩ = some (.slice a1_3 x1.wh.length c1_3) ∧ W.cell? ⟨w.heap.size + 1, 4, none⟩ = some (.slice a1_4 x1.row.length c1_4) ∧ W.cell? ⟨w.heap.size + 1, 5, none⟩ = some (.slice a1_5 x1.mu.length c1_5) ∧ W.cell? ⟨w.heap.size + 1, 6, none⟩ = some (.slice a1_6 x1.cs.length c1_6) ∧ W.cell? ⟨w.heap.size + 1, 7, none⟩ = some (.bool x1.un) ∧ W.cell? ⟨wx1.heap.size, 0, none⟩ = some (.int .i64 x1.kd) ∧ W.cell? ⟨wx1.heap.size, 1, none⟩ = some (.string ⟨x1.tb.toArray⟩) ∧ W.cell? ⟨wx1.heap.size, 2, none⟩ = some (.string ⟨x1.nm.toArray⟩) ∧ W.cell? ⟨wx1.heap.size, 3, none⟩ = some (.slice (some ⟨p1_3, 0, none⟩) x1.wh.length x1.wh.length) ∧ W.cell? ⟨wx1.heap.size, 4, none⟩ = some (.slice (some ⟨p1_4, 0, none⟩) x1.row.length x1.row.length) ∧ W.cell? ⟨wx1.heap.size, 5, none⟩ = some (.slice (some ⟨p1_5, 0, none⟩) x1.mu.length x1.mu.length) ∧ W.cell? ⟨wx1.heap.size, 6, none⟩ = some (.slice (some ⟨p1_6, 0, none⟩) x1.cs.length x1.cs.length) ∧ W.cell? ⟨wx1.heap.size, 7, none⟩ = some (.bool x1.un))) := fun W h => ⟨cell_at (o := 0) h.2.2.1 rfl, cell_at (o := 1) h.2.2.1 rfl, cell_at (o := 2) h.2.2.1 rfl, cell_at (o := 3) h.2.2.1 rfl, cell_at (o := 4) h.2.2.1 rfl, cell_at (o := 5) h.2.2.1 rfl, cell_at (o := 6) h.2.2.1 rfl, cell_at (o := 7) h.2.2.1 rfl, cell_at (o := 0) h.2.2.2.2.2.1 rfl, cell_at (o := 1) h.2.2.2.2.2.1 rfl, cell_at (o := 2) h.2.2.2.2.2.1 rfl, cell_at (o := 3) h.2.2.2.2.2.1 rfl, cell_at (o := 4) h.2.2.2.2.2.1 rfl, cell_at (o := 5) h.2.2.2.2.2.1 rfl, cell_at (o := 6) h.2.2.2.2.2.1 rfl, cell_at (o := 7) h.2.2.2.2.2.1 rfl⟩
  refine wp_region_held_drew (S := (fun W => W.cell? ⟨w.heap.size + 1, 0, none⟩ = some (.int .i64 x1.kd) ∧ W.cell? ⟨w.heap.size + 1, 1, none⟩ = some (.string ⟨x1.tb.toArray⟩) ∧ W.cell? ⟨w.heap.size + 1, 2, none⟩ = some (.string ⟨x1.nm.toArray⟩) ∧ W.cell? ⟨w.heap.size + 1, 3, none⟩ = some (.slice a1_3 x1.wh.length c1_3) ∧ W.cell? ⟨w.heap.size + 1, 4, none⟩ = some (.slice a1_4 x1.row.length c1_4) ∧ W.cell? ⟨w.heap.size + 1, 5, none⟩ = some (.slice a1_5 x1.mu.length c1_5) ∧ W.cell? ⟨w.heap.size + 1, 6, none⟩ = some (.slice a1_6 x1.cs.length c1_6) ∧ W.cell? ⟨w.heap.size + 1, 7, none⟩ = some (.bool x1.un) ∧ W.cell? ⟨wx1.heap.size, 0, none⟩ = some (.int .i64 x1.kd) ∧ W.cell? ⟨wx1.heap.size, 1, none⟩ = some (.string ⟨x1.tb.toArray⟩) ∧ W.cell? ⟨wx1.heap.size, 2, none⟩ = some (.string ⟨x1.nm.toArray⟩) ∧ W.cell? ⟨wx1.heap.size, 3, none⟩ = some (.slice (some ⟨p1_3, 0, none⟩) x1.wh.length x1.wh.length) ∧ W.cell? ⟨wx1.heap.size, 4, none⟩ = some (.slice (some ⟨p1_4, 0, none⟩) x1.row.length x1.row.length) ∧ W.cell? ⟨wx1.heap.size, 5, none⟩ = some (.slice (some ⟨p1_5, 0, none⟩) x1.mu.length x1.mu.length) ∧ W.cell? ⟨wx1.heap.size, 6, none⟩ = some (.slice (some ⟨p1_6, 0, none⟩) x1.cs.length x1.cs.length) ∧ W.cell? ⟨wx1.heap.size, 7, none⟩ = some (.bool x1.un))) (by kernel_rfl) ?_ (fun hHeld => ?_)
  · (first | exact CE1.out _ hx | exact CE1.out _ (XS1L.out _ _ hx (Below.refl _ _).drew))
  refine tkA (i := 0) (v := ?_) rfl ?_ ?_
  rotate_left
  · (intro wS hSw; (try dsimp only at hSw); go_simp <;> with_reducible rfl)
  try simp only [Act.put, tkS]
  refine tkA (i := 1) (v := ?_) rfl ?_ ?_
  rotate_left
  · (intro wS hSw; (try dsimp only at hSw); go_simp <;> with_reducible rfl)
  try simp only [Act.put, tkS]
  refine wpAnyH_ready (rs := [2]) (by kernel_rfl) (by simp) (AllReadyH.cons rfl (fun K hK => ?_) AllReadyH.nil)
  go_simp
  (go_at_call 8; refine (TO1.out _ (by first | exact XA.out _ hx | exact XA.out _ (XS1L.out _ _ hx (Below.refl _ _).drew))).mono ?_; rintro e we1 ⟨s1_3, s1_4, s1_5, s1_6, rfl, ho, hB, _⟩; have h2 : Below w.heap.size w we1 ∧ we1.heap[w.heap.size]? = some (.cells #[.slice a0_0 x0.tables.length c0_0] 24) ∧ we1.heap[w.heap.size + 1]? = some (.cells #[.int .i64 x1.kd, .string ⟨x1.tb.toArray⟩, .string ⟨x1.nm.toArray⟩, .slice a1_3 x1.wh.length c1_3, .slice a1_4 x1.row.length c1_4, .slice a1_5 x1.mu.length c1_5, .slice a1_6 x1.cs.length c1_6, .bool x1.un] 30) ∧ we1.heap[wx0.heap.size]? = some (.cells #[.slice (some ⟨p0_0, 0, none⟩) x0.tables.length x0.tables.length] 37) ∧ Rd we1 (fun _ => True) (dTableS x0.tables) (.slice (some ⟨p0_0, 0, none⟩) x0.tables.length x0.tables.length) ∧ we1.heap[wx1.heap.size]? = some (.cells #[.int .i64 x1.kd, .string ⟨x1.tb.toArray⟩, .string ⟨x1.nm.toArray⟩, .slice (some ⟨p1_3, 0, none⟩) x1.wh.length x1.wh.length, .slice (some ⟨p1_4, 0, none⟩) x1.row.length x1.row.length, .slice (some ⟨p1_5, 0, none⟩) x1.mu.length x1.mu.length, .slice (some ⟨p1_6, 0, none⟩) x1.cs.length x1.cs.length, .bool x1.un] 43) ∧ Rd we1 (fun _ => True) (dCondS x1.wh) (.slice (some ⟨p1_3, 0, none⟩) x1.wh.length x1.wh.length) ∧ Rd we1 (fun _ => True) (dSetS x1.row) (.slice (some ⟨p1_4, 0, none⟩) x1.row.length x1.row.length) ∧ Rd we1 (fun _ => True) (dMutS x1.mu) (.slice (some ⟨p1_5, 0, none⟩) x1.mu.length x1.mu.length) ∧ Rd we1 (fun _ => True) (dStringS x1.cs) (.slice (some ⟨p1_6, 0, none⟩) x1.cs.length x1.cs.length) := (by first | exact XS1L.out _ _ hx hB | exact XS1L.out _ _ (XS1L.out _ _ hx (Below.refl _ _).drew) hB); clear hx; have hx := h2; clear h2; have RE1_3 : Hid (Rd _ (fun _ => True) (dCondS x1.wh) (.slice (some ⟨s1_3, 0, none⟩) x1.wh.length x1.wh.length)) := (Owns.one ho (j := 3) (by omega)).rd'.any; have RE1_4 : Hid (Rd _ (fun _ => True) (dSetS x1.row) (.slice (some ⟨s1_4, 0, none⟩) x1.row.length x1.row.length)) := (Owns.one ho (j := 4) (by omega)).rd'.any; have RE1_5 : Hid (Rd _ (fun _ => True) (dMutS x1.mu) (.slice (some ⟨s1_5, 0, none⟩) x1.mu.length x1.mu.length)) := (Owns.one ho (j := 5) (by omega)).rd'.any; have RE1_6 : Hid (Rd _ (fun _ => True) (dStringS x1.cs) (.slice (some ⟨s1_6, 0, none⟩) x1.cs.length x1.cs.length)) := (Owns.one ho (j := 6) (by omega)).rd'.any; clear hB ho)
  refine hK.out _ _ ?_ (fun hHeld => ?_)
  · (first | exact CE1.out _ hx | exact CE1.out _ (XS1L.out _ _ hx (Below.refl _ _).drew))
  clear hK K
  try simp only [Act.put, tkS]
  refine wpAnyH_ready (rs := [3]) (by kernel_rfl) (by simp) (AllReadyH.cons rfl (fun K hK => ?_) AllReadyH.nil)
  go_simp
  (go_at_call 11; refine (EQ1.out _ _ _ _ _ _ _ _ _ _ _ _ _ _ _ _ _ (by first | exact hx.2.2.2.2.2.2.1 | exact Rd.later hx.2.2.2.2.2.2.1 (Below.refl _ _).drew) (by first | exact hx.2.2.2.2.2.2.2.1 | exact Rd.later hx.2.2.2.2.2.2.2.1 (Below.refl _ _).drew) (by first | exact hx.2.2.2.2.2.2.2.2.1 | exact Rd.later hx.2.2.2.2.2.2.2.2.1 (Below.refl _ _).drew) (by first | exact hx.2.2.2.2.2.2.2.2.2 | exact Rd.later hx.2.2.2.2.2.2.2.2.2 (Below.refl _ _).drew) (by first | exact RE1_3.out | exact Rd.later RE1_3.out (Below.refl _ _).drew) (by first | exact RE1_4.out | exact Rd.later RE1_4.out (Below.refl _ _).drew) (by first | exact RE1_5.out | exact Rd.later RE1_5.out (Below.refl _ _).drew) (by first | exact RE1_6.out | exact Rd.later RE1_6.out (Below.refl _ _).drew)).mono ?_; rintro e wf1 ⟨rfl, hB⟩; have h2 : Below w.heap.size w wf1 ∧ wf1.heap[w.heap.size]? = some (.cells #[.slice a0_0 x0.tables.length c0_0] 24) ∧ wf1.heap[w.heap.size + 1]? = some (.cells #[.int .i64 x1.kd, .string ⟨x1.tb.toArray⟩, .string ⟨x1.nm.toArray⟩, .slice a1_3 x1.wh.length c1_3, .slice a1_4 x1.row.length c1_4, .slice a1_5 x1.mu.length c1_5, .slice a1_6 x1.cs.length c1_6, .bool x1.un] 30) ∧ wf1.heap[wx0.heap.size]? = some (.cells #[.slice (some ⟨p0_0, 0, none⟩) x0.tables.length x0.tables.length] 37) ∧ Rd wf1 (fun _ => True) (dTableS x0.tables) (.slice (some ⟨p0_0, 0, none⟩) x0.tables.length x0.tables.length) ∧ wf1.heap[wx1.heap.size]? = some (.cells #[.int .i64 x1.kd, .string ⟨x1.tb.toArray⟩, .string ⟨x1.nm.toArray⟩, .slice (some ⟨p1_3, 0, none⟩) x1.wh.length x1.wh.length, .slice (some ⟨p1_4, 0, none⟩) x1.row.length x1.row.length, .slice (some ⟨p1_5, 0, none⟩) x1.mu.length x1.mu.length, .slice (some ⟨p1_6, 0, none⟩) x1.cs.length x1.cs.length, .bool x1.un] 43) ∧ Rd wf1 (fun _ => True) (dCondS x1.wh) (.slice (some ⟨p1_3, 0, none⟩) x1.wh.length x1.wh.length) ∧ Rd wf1 (fun _ => True) (dSetS x1.row) (.slice (some ⟨p1_4, 0, none⟩) x1.row.length x1.row.length) ∧ Rd wf1 (fun _ => True) (dMutS x1.mu) (.slice (some ⟨p1_5, 0, none⟩) x1.mu.length x1.mu.length) ∧ Rd wf1 (fun _ => True) (dStringS x1.cs) (.slice (some ⟨p1_6, 0, none⟩) x1.cs.length x1.cs.length) := (by first | exact XS1L.out _ _ hx hB | exact XS1L.out _ _ (XS1L.out _ _ hx (Below.refl _ _).drew) hB); clear hx hB; have hx := h2; clear h2)
  refine hK.out _ _ ?_ (fun hHeld => ?_)
  · (first | exact CE1.out _ hx | exact CE1.out _ (XS1L.out _ _ hx (Below.refl _ _).drew))
  clear hK K
  try simp only [Act.put, tkS]
  refine tkA (i := 4) (v := ?_) rfl ?_ ?_
  rotate_left
  · (intro wS hSw; (try dsimp only at hSw); go_simp <;> with_reducible rfl)
  try simp only [Act.put, tkS]
  refine wpAnyH_done (by kernel_rfl) ?_ _
  clear x0_0 x1_0 x1_1 x1_2 x1_3 x1_4 x1_5 x1_6 x1_7 y0_0 y1_0 y1_1 y1_2 y1_3 y1_4 y1_5 y1_6 y1_7 RE1_3 RE1_4 RE1_5 RE1_6
  go_wp2_with fail
  go_ret
  exact ⟨rfl, by first | exact hx.1 | exact hx.1.drew⟩
end Go.Proofs.YtaepgahejelkaaaGreat
