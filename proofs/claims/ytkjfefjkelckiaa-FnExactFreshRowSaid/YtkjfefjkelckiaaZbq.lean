import Derived.Test.YtkjfefjkelckiaaZbk
import Derived.Test.YtkjfefjkelckiaaZbl
import Derived.Test.YtkjfefjkelckiaaZbn
import Derived.Test.YtkjfefjkelckiaaZbp
import Derived.Deep.RegionHeld3
import Derived.Deep.CutRange
import Derived.Test.YtkjfefjkelckiaaZTk
namespace Go.Proofs.Ytkjfefjkelckiaa
open Go.RowKit
set_option linter.unusedSimpArgs false
set_option maxRecDepth 100000 in
set_option maxHeartbeats 12800000 in
theorem lawFreshRow (x0 : Tb) (x1 : Int) (a0_1 : Option Addr) (c0_1 : Nat) (a0_2 : Option Addr) (c0_2 : Nat) (w : World) (l0_1 : (dColumnS x0.cols).le maxLen) (l0_2 : (dIntS x0.uq).le maxLen) (l0_0 : x0.nm.length ≤ maxLen) (l1 : iOK x1) (r0_1 : Rd w (· < w.heap.size) (dColumnS x0.cols) (.slice a0_1 x0.cols.length c0_1)) (r0_2 : Rd w (· < w.heap.size) (dIntS x0.uq) (.slice a0_2 x0.uq.length c0_2)) :
    Calls Try.prog 5 #[.agg #[.string ⟨x0.nm.toArray⟩, .slice a0_1 x0.cols.length c0_1, .slice a0_2 x0.uq.length c0_2, .bool x0.rt], .int .i64 x1] w fun e w' => e = .returned (.bool true) ∧ Below w.heap.size w w' := by
  have HL0_1 := Lib.hid l0_1
  have HL0_2 := Lib.hid l0_2
  have HO0 : Hid (∀ j, j < 4 → (dTable x0 j).le maxLen) := fun j hj => by
    rcases (by omega : j = 0 ∨ j = 1 ∨ j = 2 ∨ j = 3) with rfl | rfl | rfl | rfl
    · exact l0_0
    · exact l0_1
    · exact l0_2
    · exact trivial
  have RA0_1 : Hid (∀ W, Below w.heap.size w W → Rd W (· < w.heap.size) (dColumnS x0.cols) (.slice a0_1 x0.cols.length c0_1)) := fun W h => Rd.same (fun b hb => h.block b hb) (fun _ h => h) _ _ r0_1
  have RA0_2 : Hid (∀ W, Below w.heap.size w W → Rd W (· < w.heap.size) (dIntS x0.uq) (.slice a0_2 x0.uq.length c0_2)) := fun W h => Rd.same (fun b hb => h.block b hb) (fun _ h => h) _ _ r0_2
  have HW1 := Lib.hid l1
  have ALAT : Hid (∀ W W', (Below w.heap.size w W ∧ W.heap[w.heap.size]? = some (.cells #[.string ⟨x0.nm.toArray⟩, .slice a0_1 x0.cols.length c0_1, .slice a0_2 x0.uq.length c0_2, .bool x0.rt] 41)) → Below W.heap.size W W' → (Below w.heap.size w W' ∧ W'.heap[w.heap.size]? = some (.cells #[.string ⟨x0.nm.toArray⟩, .slice a0_1 x0.cols.length c0_1, .slice a0_2 x0.uq.length c0_2, .bool x0.rt] 41))) := fun W W' h hB => ⟨h.1.trans (hB.mono h.1.size), heap_keptD h.2 hB⟩
  have A0 : Hid (Below w.heap.size w (w.alloc (.cells #[.string ⟨x0.nm.toArray⟩, .slice a0_1 x0.cols.length c0_1, .slice a0_2 x0.uq.length c0_2, .bool x0.rt] 41)) ∧ (w.alloc (.cells #[.string ⟨x0.nm.toArray⟩, .slice a0_1 x0.cols.length c0_1, .slice a0_2 x0.uq.length c0_2, .bool x0.rt] 41)).heap[w.heap.size]? = some (.cells #[.string ⟨x0.nm.toArray⟩, .slice a0_1 x0.cols.length c0_1, .slice a0_2 x0.uq.length c0_2, .bool x0.rt] 41)) := by
    exact ⟨below_allocD _ _, heap_newD _ _⟩
  clear l0_1 r0_1 l0_2 r0_2 l1
  have x0_0 := cell_at (o := 0) A0.out.2 rfl
  have x0_1 := cell_at (o := 1) A0.out.2 rfl
  have x0_2 := cell_at (o := 2) A0.out.2 rfl
  have x0_3 := cell_at (o := 3) A0.out.2 rfl
  go_enter Try.func5, Try.ntmps5
  go_wp2_with fail
  have bl : Hid ((0 : Int) ≤ 1048576 ∧ (1048576 : Int) ≤ 1048576) := by show _ ∧ _; omega
  refine (szDTable x0 a0_1 c0_1 a0_2 c0_2 1048576 _ _ bl.out.1 bl.out.2 HO0.out (RA0_1.out _ A0.out.1) (RA0_2.out _ A0.out.1)).mono ?_
  rintro e ws0 ⟨rfl, hB⟩
  have AS0 := Lib.hid (ALAT.out _ _ A0.out hB)
  clear hB A0 x0_0 x0_1 x0_2 x0_3
  have x0_0 := cell_at (o := 0) AS0.out.2 rfl
  have x0_1 := cell_at (o := 1) AS0.out.2 rfl
  have x0_2 := cell_at (o := 2) AS0.out.2 rfl
  have x0_3 := cell_at (o := 3) AS0.out.2 rfl
  by_cases hz0 : (1048576 : Int) - (szT 4 (dTable x0) : Int) < 0
  case pos =>
    rw [less_no hz0]
    go_wp2_with fail
    go_ret
    exact ⟨rfl, AS0.out.1⟩
  rw [less_yes (by omega)]
  obtain ⟨L0, hL0⟩ : ∃ L0 : Int, L0 = 1048576 - (szT 4 (dTable x0) : Int) := ⟨_, rfl⟩
  rw [← hL0]
  have dL0 : decide (L0 < 0) = false := decide_eq_false (by omega)
  have HZ0 : Hid (szT 4 (dTable x0) ≤ 1048576) := by have := bl.out; show _ ≤ _; omega
  have b2 : Hid (0 ≤ L0 ∧ L0 ≤ 1048576) := by have := bl.out; show _ ∧ _; omega
  clear hz0 hL0 bl
  have bl := b2
  clear b2
  go_wp2_with fail
  have HK0 : Hid (∀ j, j < 4 → (dTable x0 j).le 1048576) := fun j hj => D.le_of_sz _ (HO0.out j hj) (Nat.le_trans (sumN_le (g := fun j => (dTable x0 j).sz) hj) HZ0.out)
  have TO0 : Hid (∀ W, (Below w.heap.size w W ∧ W.heap[w.heap.size]? = some (.cells #[.string ⟨x0.nm.toArray⟩, .slice a0_1 x0.cols.length c0_1, .slice a0_2 x0.uq.length c0_2, .bool x0.rt] 41)) → Calls Try.prog 15 #[.agg #[.string ⟨x0.nm.toArray⟩, .slice a0_1 x0.cols.length c0_1, .slice a0_2 x0.uq.length c0_2, .bool x0.rt]] W fun e w' => ∃ p1 : Nat, ∃ p2 : Nat, e = .returned (.agg #[.string ⟨x0.nm.toArray⟩, .slice (some ⟨p1, 0, none⟩) x0.cols.length x0.cols.length, .slice (some ⟨p2, 0, none⟩) x0.uq.length x0.uq.length, .bool x0.rt]) ∧ Owns w' 4 (dTable x0) (vat [.string ⟨x0.nm.toArray⟩, .slice (some ⟨p1, 0, none⟩) x0.cols.length x0.cols.length, .slice (some ⟨p2, 0, none⟩) x0.uq.length x0.uq.length, .bool x0.rt]) (fun c => W.heap.size ≤ c ∧ c < w'.heap.size) ∧ Below W.heap.size W w' ∧ (Below w.heap.size w w' ∧ w'.heap[w.heap.size]? = some (.cells #[.string ⟨x0.nm.toArray⟩, .slice a0_1 x0.cols.length c0_1, .slice a0_2 x0.uq.length c0_2, .bool x0.rt] 41))) := fun W h => (toDTable x0 a0_1 c0_1 a0_2 c0_2 _ W HK0.out (RA0_1.out W h.1) (RA0_2.out W h.1)).mono (fun e w' ⟨p1, p2, he, ho, hB⟩ => ⟨p1, p2, he, ho, hB, ALAT.out _ _ h hB⟩)
  obtain ⟨R0, hR0⟩ : ∃ r, r = frR x0 x1 := ⟨_, rfl⟩
  obtain ⟨R1, hR1⟩ : ∃ r, r = frC x0 x1 := ⟨_, rfl⟩
  have CS : Hid (∀ (W : World) (b0_1 : Option Addr) (e0_1 : Nat) (b0_2 : Option Addr) (e0_2 : Nat), Rd W (fun _ => True) (dColumnS x0.cols) (.slice b0_1 x0.cols.length e0_1) → Rd W (fun _ => True) (dIntS x0.uq) (.slice b0_2 x0.uq.length e0_2) → Calls Try.prog 26 #[.agg #[.string ⟨x0.nm.toArray⟩, .slice b0_1 x0.cols.length e0_1, .slice b0_2 x0.uq.length e0_2, .bool x0.rt], .int .i64 x1] W fun e w' => ∃ (ra : Option Addr) (rc : Nat), e = .returned (.tuple #[.agg #[.int .i64 R0.id, .slice ra R0.cells.length rc], .int .i64 R1]) ∧ Rd w' (· < w'.heap.size) (dAtomSS R0.cells) (.slice ra R0.cells.length rc) ∧ Below W.heap.size W w') := fun W b0_1 e0_1 b0_2 e0_2 h0_1 h0_2 => by rw [hR0, hR1]; exact (freshRowS x0 b0_1 e0_1 b0_2 e0_2 _ x1 W (le_table (HO0.out 0 (by omega)) HL0_1.out HL0_2.out) (Rd.hasT h0_1 h0_2)).mono (fun _ _ h => RowAns.few h)
  have CI : Hid (∀ (W : World) (b0_1 : Option Addr) (e0_1 : Nat) (b0_2 : Option Addr) (e0_2 : Nat), Rd W (fun _ => True) (dColumnS x0.cols) (.slice b0_1 x0.cols.length e0_1) → Rd W (fun _ => True) (dIntS x0.uq) (.slice b0_2 x0.uq.length e0_2) → Calls Try.prog 27 #[.agg #[.string ⟨x0.nm.toArray⟩, .slice b0_1 x0.cols.length e0_1, .slice b0_2 x0.uq.length e0_2, .bool x0.rt], .int .i64 x1] W fun e w' => ∃ (ra : Option Addr) (rc : Nat), e = .returned (.tuple #[.agg #[.int .i64 R0.id, .slice ra R0.cells.length rc], .int .i64 R1]) ∧ Own w' (dAtomSS R0.cells) (fun c => W.heap.size ≤ c ∧ c < w'.heap.size) (.slice ra R0.cells.length rc) ∧ Below W.heap.size W w') := fun W b0_1 e0_1 b0_2 e0_2 h0_1 h0_2 => by rw [hR0, hR1]; exact freshRowI x0 b0_1 e0_1 b0_2 e0_2 _ x1 W (le_table (HO0.out 0 (by omega)) HL0_1.out HL0_2.out) (Rd.hasT h0_1 h0_2)
  have HRB : Hid ((∀ j, j < 2 → (dRow R0 j).le maxLen) ∧ (dAtomSS R0.cells).sz ≤ 100000000) := by rw [hR0]; exact fr_le HL0_1.out HW1.out
  have HRW : Hid (1 + (dAtomSS R0.cells).wd < 100000000000) := by have h1 := D.wd_le (dAtomSS R0.cells) (HRB.out.1 1 (by omega)); have h2 := HRB.out.2; show _ < _; omega
  have nq1 : (R1 != R1) = false := by simp
  clear hR0 hR1
  have EQ0 : Hid (∀ (W : World) (b1 : Option Addr) (e1 : Nat) (f1 : Option Addr) (g1 : Nat) (b2 : Option Addr) (e2 : Nat) (f2 : Option Addr) (g2 : Nat), Rd W (fun _ => True) (dColumnS x0.cols) (.slice b1 x0.cols.length e1) → Rd W (fun _ => True) (dIntS x0.uq) (.slice b2 x0.uq.length e2) → Rd W (fun _ => True) (dColumnS x0.cols) (.slice f1 x0.cols.length g1) → Rd W (fun _ => True) (dIntS x0.uq) (.slice f2 x0.uq.length g2) → Calls Try.prog 20 #[.agg #[.string ⟨x0.nm.toArray⟩, .slice b1 x0.cols.length e1, .slice b2 x0.uq.length e2, .bool x0.rt], .agg #[.string ⟨x0.nm.toArray⟩, .slice f1 x0.cols.length g1, .slice f2 x0.uq.length g2, .bool x0.rt]] W fun e w' => e = .returned (.bool true) ∧ Below W.heap.size W w') := fun W b1 e1 f1 g1 b2 e2 f2 g2 h1 h2 i1 i2 => eqDTable x0 b1 e1 b2 e2 f1 g1 f2 g2 _ _ W HO0.out h1 h2 i1 i2
  have HOR := Lib.hid HRB.out.1
  have EQR : Hid (∀ (W : World) (b1 : Option Addr) (e1 : Nat) (f1 : Option Addr) (g1 : Nat), Rd W (fun _ => True) (dAtomSS R0.cells) (.slice b1 R0.cells.length e1) → Rd W (fun _ => True) (dAtomSS R0.cells) (.slice f1 R0.cells.length g1) → Calls Try.prog 19 #[.agg #[.int .i64 R0.id, .slice b1 R0.cells.length e1], .agg #[.int .i64 R0.id, .slice f1 R0.cells.length g1]] W fun e w' => e = .returned (.bool true) ∧ Below W.heap.size W w') := fun W b1 e1 f1 g1 h1 i1 => eqDRow R0 b1 e1 f1 g1 _ _ W HOR.out h1 i1
  refine (TO0.out _ AS0.out).mono ?_
  rintro e w1 ⟨p0_1, p0_2, rfl, ho1, hB1, hA1⟩
  have RC0_1 : Hid (Rd _ (fun _ => True) (dColumnS x0.cols) (.slice (some ⟨p0_1, 0, none⟩) x0.cols.length x0.cols.length)) := (Owns.one ho1 (j := 1) (by omega)).rd'.any
  have RC0_2 : Hid (Rd _ (fun _ => True) (dIntS x0.uq) (.slice (some ⟨p0_2, 0, none⟩) x0.uq.length x0.uq.length)) := (Owns.one ho1 (j := 2) (by omega)).rd'.any
  have A1 := Lib.hid hA1
  clear ho1 hB1 hA1 AS0 x0_0 x0_1 x0_2 x0_3
  have x0_0 := cell_at (o := 0) A1.out.2 rfl
  have x0_1 := cell_at (o := 1) A1.out.2 rfl
  have x0_2 := cell_at (o := 2) A1.out.2 rfl
  have x0_3 := cell_at (o := 3) A1.out.2 rfl
  go_wp2_with fail
  refine (CS.out _ _ _ _ _ RC0_1.out RC0_2.out).mono ?_
  rintro e w2 ⟨ra, rc, rfl, hr2, hB2⟩
  have A2 := ALAT.out _ _ A1.out hB2
  have S0L : Hid (∀ W W', (Below w.heap.size w W ∧ W.heap[w.heap.size]? = some (.cells #[.string ⟨x0.nm.toArray⟩, .slice a0_1 x0.cols.length c0_1, .slice a0_2 x0.uq.length c0_2, .bool x0.rt] 41) ∧ W.heap[w2.heap.size]? = some (.cells #[.int .i64 R0.id, .slice ra R0.cells.length rc] 50) ∧ Rd W (· < w2.heap.size) (dAtomSS R0.cells) (.slice ra R0.cells.length rc)) → Below W.heap.size W W' → (Below w.heap.size w W' ∧ W'.heap[w.heap.size]? = some (.cells #[.string ⟨x0.nm.toArray⟩, .slice a0_1 x0.cols.length c0_1, .slice a0_2 x0.uq.length c0_2, .bool x0.rt] 41) ∧ W'.heap[w2.heap.size]? = some (.cells #[.int .i64 R0.id, .slice ra R0.cells.length rc] 50) ∧ Rd W' (· < w2.heap.size) (dAtomSS R0.cells) (.slice ra R0.cells.length rc))) := fun W W' h hB => ⟨h.1.trans (hB.mono h.1.size), heap_keptD h.2.1 hB, heap_keptD h.2.2.1 hB, h.2.2.2.later hB⟩
  have M0 : Hid (Below w.heap.size w (w2.alloc (.cells #[.int .i64 R0.id, .slice ra R0.cells.length rc] 50)) ∧ (w2.alloc (.cells #[.int .i64 R0.id, .slice ra R0.cells.length rc] 50)).heap[w.heap.size]? = some (.cells #[.string ⟨x0.nm.toArray⟩, .slice a0_1 x0.cols.length c0_1, .slice a0_2 x0.uq.length c0_2, .bool x0.rt] 41) ∧ (w2.alloc (.cells #[.int .i64 R0.id, .slice ra R0.cells.length rc] 50)).heap[w2.heap.size]? = some (.cells #[.int .i64 R0.id, .slice ra R0.cells.length rc] 50) ∧ Rd (w2.alloc (.cells #[.int .i64 R0.id, .slice ra R0.cells.length rc] 50)) (· < w2.heap.size) (dAtomSS R0.cells) (.slice ra R0.cells.length rc)) := ⟨A2.1.trans ((below_allocD _ _).mono A2.1.size), heap_keptD A2.2 (below_allocD _ _), heap_newD _ _, hr2.later (below_allocD _ _)⟩
  have O0 : Hid (w.heap.size + 1 ≤ w2.heap.size) := by have h := (Array.getElem?_eq_some_iff.1 A2.2).1; show _ ≤ _; omega
  clear A2 hr2 hB2 A1 RC0_1 RC0_2 x0_0 x0_1 x0_2 x0_3
  have f_arg0_0 := cell_at (o := 0) M0.out.2.1 rfl
  have f_arg0_1 := cell_at (o := 1) M0.out.2.1 rfl
  have f_arg0_2 := cell_at (o := 2) M0.out.2.1 rfl
  have f_arg0_3 := cell_at (o := 3) M0.out.2.1 rfl
  have f_w0_0 := cell_at (o := 0) M0.out.2.2.1 rfl
  have f_w0_1 := cell_at (o := 1) M0.out.2.2.1 rfl
  go_wp2_with fail
  refine (TO0.out _ ⟨M0.out.1, M0.out.2.1⟩).mono ?_
  rintro e wx0 ⟨p0_1, p0_2, rfl, ho, hB, -⟩
  have hm := S0L.out _ _ M0.out hB
  obtain ⟨u0, hu0⟩ : ∃ u, u = (w2.alloc (.cells #[.int .i64 R0.id, .slice ra R0.cells.length rc] 50)).heap.size := ⟨_, rfl⟩
  have U0 : Hid (w2.heap.size + 1 ≤ u0 ∧ u0 ≤ wx0.heap.size) := by refine ⟨by first | omega | (rw [hu0]; simp), by rw [hu0]; exact hB.size⟩
  rw [← hu0] at ho
  obtain ⟨Y0, hy1, hy2, hy3⟩ := ho
  have YS0 := Lib.hid hy1
  have YD0 := Lib.hid hy2
  have S1L : Hid (∀ W W', (Below w.heap.size w W ∧ W.heap[w.heap.size]? = some (.cells #[.string ⟨x0.nm.toArray⟩, .slice a0_1 x0.cols.length c0_1, .slice a0_2 x0.uq.length c0_2, .bool x0.rt] 41) ∧ W.heap[w2.heap.size]? = some (.cells #[.int .i64 R0.id, .slice ra R0.cells.length rc] 50) ∧ Rd W (· < w2.heap.size) (dAtomSS R0.cells) (.slice ra R0.cells.length rc) ∧ W.heap[wx0.heap.size]? = some (.cells #[.string ⟨x0.nm.toArray⟩, .slice (some ⟨p0_1, 0, none⟩) x0.cols.length x0.cols.length, .slice (some ⟨p0_2, 0, none⟩) x0.uq.length x0.uq.length, .bool x0.rt] 55) ∧ Own W (dColumnS x0.cols) (Y0 1) (.slice (some ⟨p0_1, 0, none⟩) x0.cols.length x0.cols.length) ∧ Own W (dIntS x0.uq) (Y0 2) (.slice (some ⟨p0_2, 0, none⟩) x0.uq.length x0.uq.length)) → Below W.heap.size W W' → (Below w.heap.size w W' ∧ W'.heap[w.heap.size]? = some (.cells #[.string ⟨x0.nm.toArray⟩, .slice a0_1 x0.cols.length c0_1, .slice a0_2 x0.uq.length c0_2, .bool x0.rt] 41) ∧ W'.heap[w2.heap.size]? = some (.cells #[.int .i64 R0.id, .slice ra R0.cells.length rc] 50) ∧ Rd W' (· < w2.heap.size) (dAtomSS R0.cells) (.slice ra R0.cells.length rc) ∧ W'.heap[wx0.heap.size]? = some (.cells #[.string ⟨x0.nm.toArray⟩, .slice (some ⟨p0_1, 0, none⟩) x0.cols.length x0.cols.length, .slice (some ⟨p0_2, 0, none⟩) x0.uq.length x0.uq.length, .bool x0.rt] 55) ∧ Own W' (dColumnS x0.cols) (Y0 1) (.slice (some ⟨p0_1, 0, none⟩) x0.cols.length x0.cols.length) ∧ Own W' (dIntS x0.uq) (Y0 2) (.slice (some ⟨p0_2, 0, none⟩) x0.uq.length x0.uq.length))) := fun W W' h hB => ⟨h.1.trans (hB.mono h.1.size), heap_keptD h.2.1 hB, heap_keptD h.2.2.1 hB, h.2.2.2.1.later hB, heap_keptD h.2.2.2.2.1 hB, h.2.2.2.2.2.1.later hB, h.2.2.2.2.2.2.later hB⟩
  have M1 : Hid (Below w.heap.size w (wx0.alloc (.cells #[.string ⟨x0.nm.toArray⟩, .slice (some ⟨p0_1, 0, none⟩) x0.cols.length x0.cols.length, .slice (some ⟨p0_2, 0, none⟩) x0.uq.length x0.uq.length, .bool x0.rt] 55)) ∧ (wx0.alloc (.cells #[.string ⟨x0.nm.toArray⟩, .slice (some ⟨p0_1, 0, none⟩) x0.cols.length x0.cols.length, .slice (some ⟨p0_2, 0, none⟩) x0.uq.length x0.uq.length, .bool x0.rt] 55)).heap[w.heap.size]? = some (.cells #[.string ⟨x0.nm.toArray⟩, .slice a0_1 x0.cols.length c0_1, .slice a0_2 x0.uq.length c0_2, .bool x0.rt] 41) ∧ (wx0.alloc (.cells #[.string ⟨x0.nm.toArray⟩, .slice (some ⟨p0_1, 0, none⟩) x0.cols.length x0.cols.length, .slice (some ⟨p0_2, 0, none⟩) x0.uq.length x0.uq.length, .bool x0.rt] 55)).heap[w2.heap.size]? = some (.cells #[.int .i64 R0.id, .slice ra R0.cells.length rc] 50) ∧ Rd (wx0.alloc (.cells #[.string ⟨x0.nm.toArray⟩, .slice (some ⟨p0_1, 0, none⟩) x0.cols.length x0.cols.length, .slice (some ⟨p0_2, 0, none⟩) x0.uq.length x0.uq.length, .bool x0.rt] 55)) (· < w2.heap.size) (dAtomSS R0.cells) (.slice ra R0.cells.length rc) ∧ (wx0.alloc (.cells #[.string ⟨x0.nm.toArray⟩, .slice (some ⟨p0_1, 0, none⟩) x0.cols.length x0.cols.length, .slice (some ⟨p0_2, 0, none⟩) x0.uq.length x0.uq.length, .bool x0.rt] 55)).heap[wx0.heap.size]? = some (.cells #[.string ⟨x0.nm.toArray⟩, .slice (some ⟨p0_1, 0, none⟩) x0.cols.length x0.cols.length, .slice (some ⟨p0_2, 0, none⟩) x0.uq.length x0.uq.length, .bool x0.rt] 55) ∧ Own (wx0.alloc (.cells #[.string ⟨x0.nm.toArray⟩, .slice (some ⟨p0_1, 0, none⟩) x0.cols.length x0.cols.length, .slice (some ⟨p0_2, 0, none⟩) x0.uq.length x0.uq.length, .bool x0.rt] 55)) (dColumnS x0.cols) (Y0 1) (.slice (some ⟨p0_1, 0, none⟩) x0.cols.length x0.cols.length) ∧ Own (wx0.alloc (.cells #[.string ⟨x0.nm.toArray⟩, .slice (some ⟨p0_1, 0, none⟩) x0.cols.length x0.cols.length, .slice (some ⟨p0_2, 0, none⟩) x0.uq.length x0.uq.length, .bool x0.rt] 55)) (dIntS x0.uq) (Y0 2) (.slice (some ⟨p0_2, 0, none⟩) x0.uq.length x0.uq.length)) := ⟨hm.1.trans ((below_allocD _ _).mono hm.1.size), heap_keptD hm.2.1 (below_allocD _ _), heap_keptD hm.2.2.1 (below_allocD _ _), hm.2.2.2.later (below_allocD _ _), heap_newD _ _, (hy3 1 (by omega)).later (below_allocD _ _), (hy3 2 (by omega)).later (below_allocD _ _)⟩
  clear f_arg0_0 f_arg0_1 f_arg0_2 f_arg0_3 f_w0_0 f_w0_1
  clear hm hB hy1 hy2 hy3 hu0 M0
  have f_arg0_0 := cell_at (o := 0) M1.out.2.1 rfl
  have f_arg0_1 := cell_at (o := 1) M1.out.2.1 rfl
  have f_arg0_2 := cell_at (o := 2) M1.out.2.1 rfl
  have f_arg0_3 := cell_at (o := 3) M1.out.2.1 rfl
  have f_w0_0 := cell_at (o := 0) M1.out.2.2.1 rfl
  have f_w0_1 := cell_at (o := 1) M1.out.2.2.1 rfl
  have f_x0_0 := cell_at (o := 0) M1.out.2.2.2.2.1 rfl
  have f_x0_1 := cell_at (o := 1) M1.out.2.2.2.2.1 rfl
  have f_x0_2 := cell_at (o := 2) M1.out.2.2.2.2.1 rfl
  have f_x0_3 := cell_at (o := 3) M1.out.2.2.2.2.1 rfl
  go_wp2_with fail
  refine (CI.out _ _ _ _ _ (Rd.any (Own.rd' (M1.out.2.2.2.2.2.1))) (Rd.any (Own.rd' (M1.out.2.2.2.2.2.2)))).mono ?_
  rintro e wg ⟨ga, gc, rfl, ho, hB⟩
  have hm := S1L.out _ _ M1.out hB
  obtain ⟨ug, hug⟩ : ∃ u, u = (wx0.alloc (.cells #[.string ⟨x0.nm.toArray⟩, .slice (some ⟨p0_1, 0, none⟩) x0.cols.length x0.cols.length, .slice (some ⟨p0_2, 0, none⟩) x0.uq.length x0.uq.length, .bool x0.rt] 55)).heap.size := ⟨_, rfl⟩
  have UG : Hid (wx0.heap.size + 1 ≤ ug ∧ ug ≤ wg.heap.size) := by refine ⟨by first | omega | (rw [hug]; simp), by rw [hug]; exact hB.size⟩
  rw [← hug] at ho
  have SGL : Hid (∀ W W', (Below w.heap.size w W ∧ W.heap[w.heap.size]? = some (.cells #[.string ⟨x0.nm.toArray⟩, .slice a0_1 x0.cols.length c0_1, .slice a0_2 x0.uq.length c0_2, .bool x0.rt] 41) ∧ W.heap[w2.heap.size]? = some (.cells #[.int .i64 R0.id, .slice ra R0.cells.length rc] 50) ∧ Rd W (· < w2.heap.size) (dAtomSS R0.cells) (.slice ra R0.cells.length rc) ∧ W.heap[wx0.heap.size]? = some (.cells #[.string ⟨x0.nm.toArray⟩, .slice (some ⟨p0_1, 0, none⟩) x0.cols.length x0.cols.length, .slice (some ⟨p0_2, 0, none⟩) x0.uq.length x0.uq.length, .bool x0.rt] 55) ∧ Own W (dColumnS x0.cols) (Y0 1) (.slice (some ⟨p0_1, 0, none⟩) x0.cols.length x0.cols.length) ∧ Own W (dIntS x0.uq) (Y0 2) (.slice (some ⟨p0_2, 0, none⟩) x0.uq.length x0.uq.length) ∧ W.heap[wg.heap.size]? = some (.cells #[.int .i64 R0.id, .slice ga R0.cells.length gc] 50) ∧ Own W (dAtomSS R0.cells) (fun c => ug ≤ c ∧ c < wg.heap.size) (.slice ga R0.cells.length gc)) → Below W.heap.size W W' → (Below w.heap.size w W' ∧ W'.heap[w.heap.size]? = some (.cells #[.string ⟨x0.nm.toArray⟩, .slice a0_1 x0.cols.length c0_1, .slice a0_2 x0.uq.length c0_2, .bool x0.rt] 41) ∧ W'.heap[w2.heap.size]? = some (.cells #[.int .i64 R0.id, .slice ra R0.cells.length rc] 50) ∧ Rd W' (· < w2.heap.size) (dAtomSS R0.cells) (.slice ra R0.cells.length rc) ∧ W'.heap[wx0.heap.size]? = some (.cells #[.string ⟨x0.nm.toArray⟩, .slice (some ⟨p0_1, 0, none⟩) x0.cols.length x0.cols.length, .slice (some ⟨p0_2, 0, none⟩) x0.uq.length x0.uq.length, .bool x0.rt] 55) ∧ Own W' (dColumnS x0.cols) (Y0 1) (.slice (some ⟨p0_1, 0, none⟩) x0.cols.length x0.cols.length) ∧ Own W' (dIntS x0.uq) (Y0 2) (.slice (some ⟨p0_2, 0, none⟩) x0.uq.length x0.uq.length) ∧ W'.heap[wg.heap.size]? = some (.cells #[.int .i64 R0.id, .slice ga R0.cells.length gc] 50) ∧ Own W' (dAtomSS R0.cells) (fun c => ug ≤ c ∧ c < wg.heap.size) (.slice ga R0.cells.length gc))) := fun W W' h hB => ⟨h.1.trans (hB.mono h.1.size), heap_keptD h.2.1 hB, heap_keptD h.2.2.1 hB, h.2.2.2.1.later hB, heap_keptD h.2.2.2.2.1 hB, h.2.2.2.2.2.1.later hB, h.2.2.2.2.2.2.1.later hB, heap_keptD h.2.2.2.2.2.2.2.1 hB, h.2.2.2.2.2.2.2.2.later hB⟩
  have MG : Hid (Below w.heap.size w (wg.alloc (.cells #[.int .i64 R0.id, .slice ga R0.cells.length gc] 50)) ∧ (wg.alloc (.cells #[.int .i64 R0.id, .slice ga R0.cells.length gc] 50)).heap[w.heap.size]? = some (.cells #[.string ⟨x0.nm.toArray⟩, .slice a0_1 x0.cols.length c0_1, .slice a0_2 x0.uq.length c0_2, .bool x0.rt] 41) ∧ (wg.alloc (.cells #[.int .i64 R0.id, .slice ga R0.cells.length gc] 50)).heap[w2.heap.size]? = some (.cells #[.int .i64 R0.id, .slice ra R0.cells.length rc] 50) ∧ Rd (wg.alloc (.cells #[.int .i64 R0.id, .slice ga R0.cells.length gc] 50)) (· < w2.heap.size) (dAtomSS R0.cells) (.slice ra R0.cells.length rc) ∧ (wg.alloc (.cells #[.int .i64 R0.id, .slice ga R0.cells.length gc] 50)).heap[wx0.heap.size]? = some (.cells #[.string ⟨x0.nm.toArray⟩, .slice (some ⟨p0_1, 0, none⟩) x0.cols.length x0.cols.length, .slice (some ⟨p0_2, 0, none⟩) x0.uq.length x0.uq.length, .bool x0.rt] 55) ∧ Own (wg.alloc (.cells #[.int .i64 R0.id, .slice ga R0.cells.length gc] 50)) (dColumnS x0.cols) (Y0 1) (.slice (some ⟨p0_1, 0, none⟩) x0.cols.length x0.cols.length) ∧ Own (wg.alloc (.cells #[.int .i64 R0.id, .slice ga R0.cells.length gc] 50)) (dIntS x0.uq) (Y0 2) (.slice (some ⟨p0_2, 0, none⟩) x0.uq.length x0.uq.length) ∧ (wg.alloc (.cells #[.int .i64 R0.id, .slice ga R0.cells.length gc] 50)).heap[wg.heap.size]? = some (.cells #[.int .i64 R0.id, .slice ga R0.cells.length gc] 50) ∧ Own (wg.alloc (.cells #[.int .i64 R0.id, .slice ga R0.cells.length gc] 50)) (dAtomSS R0.cells) (fun c => ug ≤ c ∧ c < wg.heap.size) (.slice ga R0.cells.length gc)) := ⟨hm.1.trans ((below_allocD _ _).mono hm.1.size), heap_keptD hm.2.1 (below_allocD _ _), heap_keptD hm.2.2.1 (below_allocD _ _), hm.2.2.2.1.later (below_allocD _ _), heap_keptD hm.2.2.2.2.1 (below_allocD _ _), hm.2.2.2.2.2.1.later (below_allocD _ _), hm.2.2.2.2.2.2.later (below_allocD _ _), heap_newD _ _, ho.later (below_allocD _ _)⟩
  clear f_arg0_0 f_arg0_1 f_arg0_2 f_arg0_3 f_w0_0 f_w0_1 f_x0_0 f_x0_1 f_x0_2 f_x0_3
  clear hm hB ho hug M1
  have ORD := Lib.hid (And.intro (O0.out) (And.intro (U0.out) (UG.out)))
  have f_arg0_0 := cell_at (o := 0) MG.out.2.1 rfl
  have f_arg0_1 := cell_at (o := 1) MG.out.2.1 rfl
  have f_arg0_2 := cell_at (o := 2) MG.out.2.1 rfl
  have f_arg0_3 := cell_at (o := 3) MG.out.2.1 rfl
  have f_w0_0 := cell_at (o := 0) MG.out.2.2.1 rfl
  have f_w0_1 := cell_at (o := 1) MG.out.2.2.1 rfl
  have f_x0_0 := cell_at (o := 0) MG.out.2.2.2.2.1 rfl
  have f_x0_1 := cell_at (o := 1) MG.out.2.2.2.2.1 rfl
  have f_x0_2 := cell_at (o := 2) MG.out.2.2.2.2.1 rfl
  have f_x0_3 := cell_at (o := 3) MG.out.2.2.2.2.1 rfl
  have f_g_0 := cell_at (o := 0) MG.out.2.2.2.2.2.2.2.1 rfl
  have f_g_1 := cell_at (o := 1) MG.out.2.2.2.2.2.2.2.1 rfl
  go_wp2_with fail
  refine (EQR.out _ _ _ _ _ (Rd.any (Own.rd' (MG.out.2.2.2.2.2.2.2.2))) (Rd.any (MG.out.2.2.2.1))).mono ?_
  rintro e wc0 ⟨rfl, hB⟩
  have N1 := Lib.hid (SGL.out _ _ MG.out hB)
  clear f_arg0_0 f_arg0_1 f_arg0_2 f_arg0_3 f_w0_0 f_w0_1 f_x0_0 f_x0_1 f_x0_2 f_x0_3 f_g_0 f_g_1
  clear hB MG
  have f_arg0_0 := cell_at (o := 0) N1.out.2.1 rfl
  have f_arg0_1 := cell_at (o := 1) N1.out.2.1 rfl
  have f_arg0_2 := cell_at (o := 2) N1.out.2.1 rfl
  have f_arg0_3 := cell_at (o := 3) N1.out.2.1 rfl
  have f_w0_0 := cell_at (o := 0) N1.out.2.2.1 rfl
  have f_w0_1 := cell_at (o := 1) N1.out.2.2.1 rfl
  have f_x0_0 := cell_at (o := 0) N1.out.2.2.2.2.1 rfl
  have f_x0_1 := cell_at (o := 1) N1.out.2.2.2.2.1 rfl
  have f_x0_2 := cell_at (o := 2) N1.out.2.2.2.2.1 rfl
  have f_x0_3 := cell_at (o := 3) N1.out.2.2.2.2.1 rfl
  have f_g_0 := cell_at (o := 0) N1.out.2.2.2.2.2.2.2.1 rfl
  have f_g_1 := cell_at (o := 1) N1.out.2.2.2.2.2.2.2.1 rfl
  go_wp2_with fail
  have CE0 : Hid (∀ W, (Below w.heap.size w W ∧ W.heap[w.heap.size]? = some (.cells #[.string ⟨x0.nm.toArray⟩, .slice a0_1 x0.cols.length c0_1, .slice a0_2 x0.uq.length c0_2, .bool x0.rt] 41) ∧ W.heap[w2.heap.size]? = some (.cells #[.int .i64 R0.id, .slice ra R0.cells.length rc] 50) ∧ Rd W (· < w2.heap.size) (dAtomSS R0.cells) (.slice ra R0.cells.length rc) ∧ W.heap[wx0.heap.size]? = some (.cells #[.string ⟨x0.nm.toArray⟩, .slice (some ⟨p0_1, 0, none⟩) x0.cols.length x0.cols.length, .slice (some ⟨p0_2, 0, none⟩) x0.uq.length x0.uq.length, .bool x0.rt] 55) ∧ Own W (dColumnS x0.cols) (Y0 1) (.slice (some ⟨p0_1, 0, none⟩) x0.cols.length x0.cols.length) ∧ Own W (dIntS x0.uq) (Y0 2) (.slice (some ⟨p0_2, 0, none⟩) x0.uq.length x0.uq.length) ∧ W.heap[wg.heap.size]? = some (.cells #[.int .i64 R0.id, .slice ga R0.cells.length gc] 50) ∧ Own W (dAtomSS R0.cells) (fun c => ug ≤ c ∧ c < wg.heap.size) (.slice ga R0.cells.length gc)) → (W.cell? ⟨w.heap.size, 0, none⟩ = some (.string ⟨x0.nm.toArray⟩) ∧ W.cell? ⟨w.heap.size, 1, none⟩ = some (.slice a0_1 x0.cols.length c0_1) ∧ W.cell? ⟨w.heap.size, 2, none⟩ = some (.slice a0_2 x0.uq.length c0_2) ∧ W.cell? ⟨w.heap.size, 3, none⟩ = some (.bool x0.rt) ∧ W.cell? ⟨wx0.heap.size, 0, none⟩ = some (.string ⟨x0.nm.toArray⟩) ∧ W.cell? ⟨wx0.heap.size, 1, none⟩ = some (.slice (some ⟨p0_1, 0, none⟩) x0.cols.length x0.cols.length) ∧ W.cell? ⟨wx0.heap.size, 2, none⟩ = some (.slice (some ⟨p0_2, 0, none⟩) x0.uq.length x0.uq.length) ∧ W.cell? ⟨wx0.heap.size, 3, none⟩ = some (.bool x0.rt))) := fun W h => ⟨cell_at (o := 0) h.2.1 rfl, cell_at (o := 1) h.2.1 rfl, cell_at (o := 2) h.2.1 rfl, cell_at (o := 3) h.2.1 rfl, cell_at (o := 0) h.2.2.2.2.1 rfl, cell_at (o := 1) h.2.2.2.2.1 rfl, cell_at (o := 2) h.2.2.2.2.1 rfl, cell_at (o := 3) h.2.2.2.2.1 rfl⟩
  have XA0 : Hid (∀ W, (Below w.heap.size w W ∧ W.heap[w.heap.size]? = some (.cells #[.string ⟨x0.nm.toArray⟩, .slice a0_1 x0.cols.length c0_1, .slice a0_2 x0.uq.length c0_2, .bool x0.rt] 41) ∧ W.heap[w2.heap.size]? = some (.cells #[.int .i64 R0.id, .slice ra R0.cells.length rc] 50) ∧ Rd W (· < w2.heap.size) (dAtomSS R0.cells) (.slice ra R0.cells.length rc) ∧ W.heap[wx0.heap.size]? = some (.cells #[.string ⟨x0.nm.toArray⟩, .slice (some ⟨p0_1, 0, none⟩) x0.cols.length x0.cols.length, .slice (some ⟨p0_2, 0, none⟩) x0.uq.length x0.uq.length, .bool x0.rt] 55) ∧ Own W (dColumnS x0.cols) (Y0 1) (.slice (some ⟨p0_1, 0, none⟩) x0.cols.length x0.cols.length) ∧ Own W (dIntS x0.uq) (Y0 2) (.slice (some ⟨p0_2, 0, none⟩) x0.uq.length x0.uq.length) ∧ W.heap[wg.heap.size]? = some (.cells #[.int .i64 R0.id, .slice ga R0.cells.length gc] 50) ∧ Own W (dAtomSS R0.cells) (fun c => ug ≤ c ∧ c < wg.heap.size) (.slice ga R0.cells.length gc)) → (Below w.heap.size w W ∧ W.heap[w.heap.size]? = some (.cells #[.string ⟨x0.nm.toArray⟩, .slice a0_1 x0.cols.length c0_1, .slice a0_2 x0.uq.length c0_2, .bool x0.rt] 41))) := fun W h => ⟨h.1, h.2.1⟩
  have hx := N1.out
  clear N1
  refine wp_region_held_drew (S := (fun W => W.cell? ⟨w.heap.size, 0, none⟩ = some (.string ⟨x0.nm.toArray⟩) ∧ W.cell? ⟨w.heap.size, 1, none⟩ = some (.slice a0_1 x0.cols.length c0_1) ∧ W.cell? ⟨w.heap.size, 2, none⟩ = some (.slice a0_2 x0.uq.length c0_2) ∧ W.cell? ⟨w.heap.size, 3, none⟩ = some (.bool x0.rt) ∧ W.cell? ⟨wx0.heap.size, 0, none⟩ = some (.string ⟨x0.nm.toArray⟩) ∧ W.cell? ⟨wx0.heap.size, 1, none⟩ = some (.slice (some ⟨p0_1, 0, none⟩) x0.cols.length x0.cols.length) ∧ W.cell? ⟨wx0.heap.size, 2, none⟩ = some (.slice (some ⟨p0_2, 0, none⟩) x0.uq.length x0.uq.length) ∧ W.cell? ⟨wx0.heap.size, 3, none⟩ = some (.bool x0.rt))) (by kernel_rfl) ?_ (fun hHeld => ?_)
  · (first | exact CE0.out _ hx | exact CE0.out _ (SGL.out _ _ hx (Below.refl _ _).drew))
  refine wpAnyH_take (i := 0) (v := ?_) rfl (by kernel_rfl) (by kernel_rfl) (by kernel_rfl) (fun _ _ _ h => h) (Or.inl ⟨by kernel_rfl, ?_⟩) (by assumption) ?_
  rotate_left
  · (intro wS hSw; (try dsimp only at hSw); go_simp <;> with_reducible rfl)
  try simp only [Act.put, tkS]
  refine wpAnyH_take (i := 1) (v := ?_) rfl (by kernel_rfl) (by kernel_rfl) (by kernel_rfl) (fun _ _ _ h => h) (Or.inl ⟨by kernel_rfl, ?_⟩) (by assumption) ?_
  rotate_left
  · (intro wS hSw; (try dsimp only at hSw); go_simp <;> with_reducible rfl)
  try simp only [Act.put, tkS]
  refine wpAnyH_ready (rs := [2]) (by kernel_rfl) (by simp) (AllReadyH.cons rfl (fun K hK => ?_) AllReadyH.nil)
  go_simp
  (go_at_call 15; refine (TO0.out _ (by first | exact XA0.out _ hx | exact XA0.out _ (SGL.out _ _ hx (Below.refl _ _).drew))).mono ?_; rintro e we0 ⟨s0_1, s0_2, rfl, ho, hB, _⟩; have h2 : Below w.heap.size w we0 ∧ we0.heap[w.heap.size]? = some (.cells #[.string ⟨x0.nm.toArray⟩, .slice a0_1 x0.cols.length c0_1, .slice a0_2 x0.uq.length c0_2, .bool x0.rt] 41) ∧ we0.heap[w2.heap.size]? = some (.cells #[.int .i64 R0.id, .slice ra R0.cells.length rc] 50) ∧ Rd we0 (· < w2.heap.size) (dAtomSS R0.cells) (.slice ra R0.cells.length rc) ∧ we0.heap[wx0.heap.size]? = some (.cells #[.string ⟨x0.nm.toArray⟩, .slice (some ⟨p0_1, 0, none⟩) x0.cols.length x0.cols.length, .slice (some ⟨p0_2, 0, none⟩) x0.uq.length x0.uq.length, .bool x0.rt] 55) ∧ Own we0 (dColumnS x0.cols) (Y0 1) (.slice (some ⟨p0_1, 0, none⟩) x0.cols.length x0.cols.length) ∧ Own we0 (dIntS x0.uq) (Y0 2) (.slice (some ⟨p0_2, 0, none⟩) x0.uq.length x0.uq.length) ∧ we0.heap[wg.heap.size]? = some (.cells #[.int .i64 R0.id, .slice ga R0.cells.length gc] 50) ∧ Own we0 (dAtomSS R0.cells) (fun c => ug ≤ c ∧ c < wg.heap.size) (.slice ga R0.cells.length gc) := (by first | exact SGL.out _ _ hx hB | exact SGL.out _ _ (SGL.out _ _ hx (Below.refl _ _).drew) hB); clear hx; have hx := h2; clear h2; have RE0_1 : Hid (Rd _ (fun _ => True) (dColumnS x0.cols) (.slice (some ⟨s0_1, 0, none⟩) x0.cols.length x0.cols.length)) := (Owns.one ho (j := 1) (by omega)).rd'.any; have RE0_2 : Hid (Rd _ (fun _ => True) (dIntS x0.uq) (.slice (some ⟨s0_2, 0, none⟩) x0.uq.length x0.uq.length)) := (Owns.one ho (j := 2) (by omega)).rd'.any; clear hB ho)
  refine hK.out _ _ ?_ (fun hHeld => ?_)
  · (first | exact CE0.out _ hx | exact CE0.out _ (SGL.out _ _ hx (Below.refl _ _).drew))
  clear hK K
  try simp only [Act.put, tkS]
  refine wpAnyH_ready (rs := [3]) (by kernel_rfl) (by simp) (AllReadyH.cons rfl (fun K hK => ?_) AllReadyH.nil)
  go_simp
  (go_at_call 20; refine (EQ0.out _ _ _ _ _ _ _ _ _ (by first | exact Rd.any (Own.rd' (hx.2.2.2.2.2.1)) | exact Rd.later (Rd.any (Own.rd' (hx.2.2.2.2.2.1))) (Below.refl _ _).drew) (by first | exact Rd.any (Own.rd' (hx.2.2.2.2.2.2.1)) | exact Rd.later (Rd.any (Own.rd' (hx.2.2.2.2.2.2.1))) (Below.refl _ _).drew) (by first | exact RE0_1.out | exact Rd.later RE0_1.out (Below.refl _ _).drew) (by first | exact RE0_2.out | exact Rd.later RE0_2.out (Below.refl _ _).drew)).mono ?_; rintro e wf0 ⟨rfl, hB⟩; have h2 : Below w.heap.size w wf0 ∧ wf0.heap[w.heap.size]? = some (.cells #[.string ⟨x0.nm.toArray⟩, .slice a0_1 x0.cols.length c0_1, .slice a0_2 x0.uq.length c0_2, .bool x0.rt] 41) ∧ wf0.heap[w2.heap.size]? = some (.cells #[.int .i64 R0.id, .slice ra R0.cells.length rc] 50) ∧ Rd wf0 (· < w2.heap.size) (dAtomSS R0.cells) (.slice ra R0.cells.length rc) ∧ wf0.heap[wx0.heap.size]? = some (.cells #[.string ⟨x0.nm.toArray⟩, .slice (some ⟨p0_1, 0, none⟩) x0.cols.length x0.cols.length, .slice (some ⟨p0_2, 0, none⟩) x0.uq.length x0.uq.length, .bool x0.rt] 55) ∧ Own wf0 (dColumnS x0.cols) (Y0 1) (.slice (some ⟨p0_1, 0, none⟩) x0.cols.length x0.cols.length) ∧ Own wf0 (dIntS x0.uq) (Y0 2) (.slice (some ⟨p0_2, 0, none⟩) x0.uq.length x0.uq.length) ∧ wf0.heap[wg.heap.size]? = some (.cells #[.int .i64 R0.id, .slice ga R0.cells.length gc] 50) ∧ Own wf0 (dAtomSS R0.cells) (fun c => ug ≤ c ∧ c < wg.heap.size) (.slice ga R0.cells.length gc) := (by first | exact SGL.out _ _ hx hB | exact SGL.out _ _ (SGL.out _ _ hx (Below.refl _ _).drew) hB); clear hx hB; have hx := h2; clear h2)
  refine hK.out _ _ ?_ (fun hHeld => ?_)
  · (first | exact CE0.out _ hx | exact CE0.out _ (SGL.out _ _ hx (Below.refl _ _).drew))
  clear hK K
  try simp only [Act.put, tkS]
  refine wpAnyH_take (i := 4) (v := ?_) rfl (by kernel_rfl) (by kernel_rfl) (by kernel_rfl) (fun _ _ _ h => h) (Or.inl ⟨by kernel_rfl, ?_⟩) (by assumption) ?_
  rotate_left
  · (intro wS hSw; (try dsimp only at hSw); go_simp <;> with_reducible rfl)
  try simp only [Act.put, tkS]
  refine wpAnyH_done (by kernel_rfl) ?_ _
  have N2 := Lib.hid hx
  clear f_arg0_0 f_arg0_1 f_arg0_2 f_arg0_3 f_w0_0 f_w0_1 f_x0_0 f_x0_1 f_x0_2 f_x0_3 f_g_0 f_g_1
  clear hx RE0_1 RE0_2
  have f_arg0_0 := cell_at (o := 0) N2.out.2.1 rfl
  have f_arg0_1 := cell_at (o := 1) N2.out.2.1 rfl
  have f_arg0_2 := cell_at (o := 2) N2.out.2.1 rfl
  have f_arg0_3 := cell_at (o := 3) N2.out.2.1 rfl
  have f_w0_0 := cell_at (o := 0) N2.out.2.2.1 rfl
  have f_w0_1 := cell_at (o := 1) N2.out.2.2.1 rfl
  have f_x0_0 := cell_at (o := 0) N2.out.2.2.2.2.1 rfl
  have f_x0_1 := cell_at (o := 1) N2.out.2.2.2.2.1 rfl
  have f_x0_2 := cell_at (o := 2) N2.out.2.2.2.2.1 rfl
  have f_x0_3 := cell_at (o := 3) N2.out.2.2.2.2.1 rfl
  have f_g_0 := cell_at (o := 0) N2.out.2.2.2.2.2.2.2.1 rfl
  have f_g_1 := cell_at (o := 1) N2.out.2.2.2.2.2.2.2.1 rfl
  go_wp2_with fail
  have MB : Hid True := trivial
  have T0F : Hid (∀ W W', (Below w.heap.size w W ∧ W.heap[w.heap.size]? = some (.cells #[.string ⟨x0.nm.toArray⟩, .slice a0_1 x0.cols.length c0_1, .slice a0_2 x0.uq.length c0_2, .bool x0.rt] 41) ∧ W.heap[w2.heap.size]? = some (.cells #[.int .i64 R0.id, .slice ra R0.cells.length rc] 50) ∧ Rd W (· < w2.heap.size) (dAtomSS R0.cells) (.slice ra R0.cells.length rc) ∧ W.heap[wx0.heap.size]? = some (.cells #[.string ⟨x0.nm.toArray⟩, .slice (some ⟨p0_1, 0, none⟩) x0.cols.length x0.cols.length, .slice (some ⟨p0_2, 0, none⟩) x0.uq.length x0.uq.length, .bool x0.rt] 55) ∧ Own W (dColumnS x0.cols) (Y0 1) (.slice (some ⟨p0_1, 0, none⟩) x0.cols.length x0.cols.length) ∧ Own W (dIntS x0.uq) (Y0 2) (.slice (some ⟨p0_2, 0, none⟩) x0.uq.length x0.uq.length) ∧ W.heap[wg.heap.size]? = some (.cells #[.int .i64 R0.id, .slice ga R0.cells.length gc] 50) ∧ Own W (dAtomSS R0.cells) (fun c => ug ≤ c ∧ c < wg.heap.size) (.slice ga R0.cells.length gc)) → Frm (fun b => (Y0 1) b ∨ (Y0 2) b) W W' → (Own W' ((dColumnS x0.cols).mkd (1)) (Y0 1) (.slice (some ⟨p0_1, 0, none⟩) x0.cols.length x0.cols.length)) → (Own W' ((dIntS x0.uq).mkd (1 + (dColumnS x0.cols).wd)) (Y0 2) (.slice (some ⟨p0_2, 0, none⟩) x0.uq.length x0.uq.length)) → (Below w.heap.size w W' ∧ W'.heap[w.heap.size]? = some (.cells #[.string ⟨x0.nm.toArray⟩, .slice a0_1 x0.cols.length c0_1, .slice a0_2 x0.uq.length c0_2, .bool x0.rt] 41) ∧ W'.heap[w2.heap.size]? = some (.cells #[.int .i64 R0.id, .slice ra R0.cells.length rc] 50) ∧ Rd W' (· < w2.heap.size) (dAtomSS R0.cells) (.slice ra R0.cells.length rc) ∧ W'.heap[wx0.heap.size]? = some (.cells #[.string ⟨x0.nm.toArray⟩, .slice (some ⟨p0_1, 0, none⟩) x0.cols.length x0.cols.length, .slice (some ⟨p0_2, 0, none⟩) x0.uq.length x0.uq.length, .bool x0.rt] 55) ∧ Own W' ((dColumnS x0.cols).mkd (1)) (Y0 1) (.slice (some ⟨p0_1, 0, none⟩) x0.cols.length x0.cols.length) ∧ Own W' ((dIntS x0.uq).mkd (1 + (dColumnS x0.cols).wd)) (Y0 2) (.slice (some ⟨p0_2, 0, none⟩) x0.uq.length x0.uq.length) ∧ W'.heap[wg.heap.size]? = some (.cells #[.int .i64 R0.id, .slice ga R0.cells.length gc] 50) ∧ Own W' (dAtomSS R0.cells) (fun c => ug ≤ c ∧ c < wg.heap.size) (.slice ga R0.cells.length gc))) := fun W W' h hF ho0 ho1 => ⟨h.1.trans (Frm.below hF h.1.size (fun b hb hx => by have h1 := (fun (b : Nat) (hb : (Y0 1) b ∨ (Y0 2) b) => hb.elim (fun h => YS0.out 1 b h) (fun h => YS0.out 2 b h)) b hx; have h2 := ORD.out; omega)), (hF.block _ (Array.getElem?_eq_some_iff.1 h.2.1).1 (fun hx => by have h1 := (fun (b : Nat) (hb : (Y0 1) b ∨ (Y0 2) b) => hb.elim (fun h => YS0.out 1 b h) (fun h => YS0.out 2 b h)) _ hx; have h2 := ORD.out; omega)).trans h.2.1, (hF.block _ (Array.getElem?_eq_some_iff.1 h.2.2.1).1 (fun hx => by have h1 := (fun (b : Nat) (hb : (Y0 1) b ∨ (Y0 2) b) => hb.elim (fun h => YS0.out 1 b h) (fun h => YS0.out 2 b h)) _ hx; have h2 := ORD.out; omega)).trans h.2.2.1, h.2.2.2.1.frm hF (fun b hb hx => by have h1 := (fun (b : Nat) (hb : (Y0 1) b ∨ (Y0 2) b) => hb.elim (fun h => YS0.out 1 b h) (fun h => YS0.out 2 b h)) b hx; have h2 := ORD.out; have h3 : b < w2.heap.size := hb; omega), (hF.block _ (Array.getElem?_eq_some_iff.1 h.2.2.2.2.1).1 (fun hx => by have h1 := (fun (b : Nat) (hb : (Y0 1) b ∨ (Y0 2) b) => hb.elim (fun h => YS0.out 1 b h) (fun h => YS0.out 2 b h)) _ hx; have h2 := ORD.out; omega)).trans h.2.2.2.2.1, ho0, ho1, (hF.block _ (Array.getElem?_eq_some_iff.1 h.2.2.2.2.2.2.2.1).1 (fun hx => by have h1 := (fun (b : Nat) (hb : (Y0 1) b ∨ (Y0 2) b) => hb.elim (fun h => YS0.out 1 b h) (fun h => YS0.out 2 b h)) _ hx; have h2 := ORD.out; omega)).trans h.2.2.2.2.2.2.2.1, h.2.2.2.2.2.2.2.2.frm hF (fun b hb hx => by have h1 := (fun (b : Nat) (hb : (Y0 1) b ∨ (Y0 2) b) => hb.elim (fun h => YS0.out 1 b h) (fun h => YS0.out 2 b h)) b hx; have h2 := ORD.out; have h3 := (fun (b : Nat) (hb : ug ≤ b ∧ b < wg.heap.size) => hb) b hb; omega)⟩
  refine (mkDTable x0 (some ⟨p0_1, 0, none⟩) x0.cols.length (some ⟨p0_2, 0, none⟩) x0.uq.length (1) (Y0 1) (Y0 2) _ (HO0.out 1 (by omega)) (HO0.out 2 (by omega)) (by omega) (by have g1 := D.wd_le (dColumnS x0.cols) (HO0.out 1 (by omega)); have g2 := D.wd_le (dIntS x0.uq) (HO0.out 2 (by omega)); have gz := HZ0.out; rw [szT_Table] at gz; omega) (N2.out.2.2.2.2.2.1) (N2.out.2.2.2.2.2.2.1) (fun b h h2 => by have := YD0.out 1 2 b h h2; omega) (fun b h h2 => by have := YD0.out 2 1 b h h2; omega)).mono ?_
  rintro e wm0 ⟨rfl, ⟨ho, ho2⟩, hF⟩
  have N3 := Lib.hid (T0F.out _ _ N2.out hF ho ho2)
  clear f_arg0_0 f_arg0_1 f_arg0_2 f_arg0_3 f_w0_0 f_w0_1 f_x0_0 f_x0_1 f_x0_2 f_x0_3 f_g_0 f_g_1
  clear ho ho2 hF N2
  have T0L : Hid (∀ W W', (Below w.heap.size w W ∧ W.heap[w.heap.size]? = some (.cells #[.string ⟨x0.nm.toArray⟩, .slice a0_1 x0.cols.length c0_1, .slice a0_2 x0.uq.length c0_2, .bool x0.rt] 41) ∧ W.heap[w2.heap.size]? = some (.cells #[.int .i64 R0.id, .slice ra R0.cells.length rc] 50) ∧ Rd W (· < w2.heap.size) (dAtomSS R0.cells) (.slice ra R0.cells.length rc) ∧ W.heap[wx0.heap.size]? = some (.cells #[.string ⟨x0.nm.toArray⟩, .slice (some ⟨p0_1, 0, none⟩) x0.cols.length x0.cols.length, .slice (some ⟨p0_2, 0, none⟩) x0.uq.length x0.uq.length, .bool x0.rt] 55) ∧ Own W ((dColumnS x0.cols).mkd (1)) (Y0 1) (.slice (some ⟨p0_1, 0, none⟩) x0.cols.length x0.cols.length) ∧ Own W ((dIntS x0.uq).mkd (1 + (dColumnS x0.cols).wd)) (Y0 2) (.slice (some ⟨p0_2, 0, none⟩) x0.uq.length x0.uq.length) ∧ W.heap[wg.heap.size]? = some (.cells #[.int .i64 R0.id, .slice ga R0.cells.length gc] 50) ∧ Own W (dAtomSS R0.cells) (fun c => ug ≤ c ∧ c < wg.heap.size) (.slice ga R0.cells.length gc)) → Below W.heap.size W W' → (Below w.heap.size w W' ∧ W'.heap[w.heap.size]? = some (.cells #[.string ⟨x0.nm.toArray⟩, .slice a0_1 x0.cols.length c0_1, .slice a0_2 x0.uq.length c0_2, .bool x0.rt] 41) ∧ W'.heap[w2.heap.size]? = some (.cells #[.int .i64 R0.id, .slice ra R0.cells.length rc] 50) ∧ Rd W' (· < w2.heap.size) (dAtomSS R0.cells) (.slice ra R0.cells.length rc) ∧ W'.heap[wx0.heap.size]? = some (.cells #[.string ⟨x0.nm.toArray⟩, .slice (some ⟨p0_1, 0, none⟩) x0.cols.length x0.cols.length, .slice (some ⟨p0_2, 0, none⟩) x0.uq.length x0.uq.length, .bool x0.rt] 55) ∧ Own W' ((dColumnS x0.cols).mkd (1)) (Y0 1) (.slice (some ⟨p0_1, 0, none⟩) x0.cols.length x0.cols.length) ∧ Own W' ((dIntS x0.uq).mkd (1 + (dColumnS x0.cols).wd)) (Y0 2) (.slice (some ⟨p0_2, 0, none⟩) x0.uq.length x0.uq.length) ∧ W'.heap[wg.heap.size]? = some (.cells #[.int .i64 R0.id, .slice ga R0.cells.length gc] 50) ∧ Own W' (dAtomSS R0.cells) (fun c => ug ≤ c ∧ c < wg.heap.size) (.slice ga R0.cells.length gc))) := fun W W' h hB => ⟨h.1.trans (hB.mono h.1.size), heap_keptD h.2.1 hB, heap_keptD h.2.2.1 hB, h.2.2.2.1.later hB, heap_keptD h.2.2.2.2.1 hB, h.2.2.2.2.2.1.later hB, h.2.2.2.2.2.2.1.later hB, heap_keptD h.2.2.2.2.2.2.2.1 hB, h.2.2.2.2.2.2.2.2.later hB⟩
  obtain ⟨k0, hk0⟩ : ∃ y : Nat, y = 1 + (dColumnS x0.cols).wd + (dIntS x0.uq).wd := ⟨_, rfl⟩
  rw [← hk0]
  have hkb0 : Hid (k0 < 1000000000 ∧ 0 < k0) := by rw [hk0]; have g1 := D.wd_le (dColumnS x0.cols) (HO0.out 1 (by omega)); have g2 := D.wd_le (dIntS x0.uq) (HO0.out 2 (by omega)); have gz := HZ0.out; rw [szT_Table] at gz; show _ ∧ _; omega
  have dk0 : decide ((k0 : Int) < 0) = false := by simp
  clear hk0
  have f_arg0_0 := cell_at (o := 0) N3.out.2.1 rfl
  have f_arg0_1 := cell_at (o := 1) N3.out.2.1 rfl
  have f_arg0_2 := cell_at (o := 2) N3.out.2.1 rfl
  have f_arg0_3 := cell_at (o := 3) N3.out.2.1 rfl
  have f_w0_0 := cell_at (o := 0) N3.out.2.2.1 rfl
  have f_w0_1 := cell_at (o := 1) N3.out.2.2.1 rfl
  have f_x0_0 := cell_at (o := 0) N3.out.2.2.2.2.1 rfl
  have f_x0_1 := cell_at (o := 1) N3.out.2.2.2.2.1 rfl
  have f_x0_2 := cell_at (o := 2) N3.out.2.2.2.2.1 rfl
  have f_x0_3 := cell_at (o := 3) N3.out.2.2.2.2.1 rfl
  have f_g_0 := cell_at (o := 0) N3.out.2.2.2.2.2.2.2.1 rfl
  have f_g_1 := cell_at (o := 1) N3.out.2.2.2.2.2.2.2.1 rfl
  go_wp2_with fail
  refine (EQR.out _ _ _ _ _ (Rd.any (Own.rd' (N3.out.2.2.2.2.2.2.2.2))) (Rd.any (N3.out.2.2.2.1))).mono ?_
  rintro e wc3 ⟨rfl, hB⟩
  have N4 := Lib.hid (T0L.out _ _ N3.out hB)
  clear f_arg0_0 f_arg0_1 f_arg0_2 f_arg0_3 f_w0_0 f_w0_1 f_x0_0 f_x0_1 f_x0_2 f_x0_3 f_g_0 f_g_1
  clear hB N3
  have f_arg0_0 := cell_at (o := 0) N4.out.2.1 rfl
  have f_arg0_1 := cell_at (o := 1) N4.out.2.1 rfl
  have f_arg0_2 := cell_at (o := 2) N4.out.2.1 rfl
  have f_arg0_3 := cell_at (o := 3) N4.out.2.1 rfl
  have f_w0_0 := cell_at (o := 0) N4.out.2.2.1 rfl
  have f_w0_1 := cell_at (o := 1) N4.out.2.2.1 rfl
  have f_x0_0 := cell_at (o := 0) N4.out.2.2.2.2.1 rfl
  have f_x0_1 := cell_at (o := 1) N4.out.2.2.2.2.1 rfl
  have f_x0_2 := cell_at (o := 2) N4.out.2.2.2.2.1 rfl
  have f_x0_3 := cell_at (o := 3) N4.out.2.2.2.2.1 rfl
  have f_g_0 := cell_at (o := 0) N4.out.2.2.2.2.2.2.2.1 rfl
  have f_g_1 := cell_at (o := 1) N4.out.2.2.2.2.2.2.2.1 rfl
  go_wp2_with fail
  have TGF : Hid (∀ W W', (Below w.heap.size w W ∧ W.heap[w.heap.size]? = some (.cells #[.string ⟨x0.nm.toArray⟩, .slice a0_1 x0.cols.length c0_1, .slice a0_2 x0.uq.length c0_2, .bool x0.rt] 41) ∧ W.heap[w2.heap.size]? = some (.cells #[.int .i64 R0.id, .slice ra R0.cells.length rc] 50) ∧ Rd W (· < w2.heap.size) (dAtomSS R0.cells) (.slice ra R0.cells.length rc) ∧ W.heap[wx0.heap.size]? = some (.cells #[.string ⟨x0.nm.toArray⟩, .slice (some ⟨p0_1, 0, none⟩) x0.cols.length x0.cols.length, .slice (some ⟨p0_2, 0, none⟩) x0.uq.length x0.uq.length, .bool x0.rt] 55) ∧ Own W ((dColumnS x0.cols).mkd (1)) (Y0 1) (.slice (some ⟨p0_1, 0, none⟩) x0.cols.length x0.cols.length) ∧ Own W ((dIntS x0.uq).mkd (1 + (dColumnS x0.cols).wd)) (Y0 2) (.slice (some ⟨p0_2, 0, none⟩) x0.uq.length x0.uq.length) ∧ W.heap[wg.heap.size]? = some (.cells #[.int .i64 R0.id, .slice ga R0.cells.length gc] 50) ∧ Own W (dAtomSS R0.cells) (fun c => ug ≤ c ∧ c < wg.heap.size) (.slice ga R0.cells.length gc)) → Frm (fun c => ug ≤ c ∧ c < wg.heap.size) W W' → (Own W' ((dAtomSS R0.cells).mkd 1) (fun c => ug ≤ c ∧ c < wg.heap.size) (.slice ga R0.cells.length gc)) → (Below w.heap.size w W' ∧ W'.heap[w.heap.size]? = some (.cells #[.string ⟨x0.nm.toArray⟩, .slice a0_1 x0.cols.length c0_1, .slice a0_2 x0.uq.length c0_2, .bool x0.rt] 41) ∧ W'.heap[w2.heap.size]? = some (.cells #[.int .i64 R0.id, .slice ra R0.cells.length rc] 50) ∧ Rd W' (· < w2.heap.size) (dAtomSS R0.cells) (.slice ra R0.cells.length rc) ∧ W'.heap[wx0.heap.size]? = some (.cells #[.string ⟨x0.nm.toArray⟩, .slice (some ⟨p0_1, 0, none⟩) x0.cols.length x0.cols.length, .slice (some ⟨p0_2, 0, none⟩) x0.uq.length x0.uq.length, .bool x0.rt] 55) ∧ Own W' ((dColumnS x0.cols).mkd (1)) (Y0 1) (.slice (some ⟨p0_1, 0, none⟩) x0.cols.length x0.cols.length) ∧ Own W' ((dIntS x0.uq).mkd (1 + (dColumnS x0.cols).wd)) (Y0 2) (.slice (some ⟨p0_2, 0, none⟩) x0.uq.length x0.uq.length) ∧ W'.heap[wg.heap.size]? = some (.cells #[.int .i64 R0.id, .slice ga R0.cells.length gc] 50) ∧ Own W' ((dAtomSS R0.cells).mkd 1) (fun c => ug ≤ c ∧ c < wg.heap.size) (.slice ga R0.cells.length gc))) := fun W W' h hF ho0 => ⟨h.1.trans (Frm.below hF h.1.size (fun b hb hx => by have h1 := (fun (b : Nat) (hb : ug ≤ b ∧ b < wg.heap.size) => hb) b hx; have h2 := ORD.out; omega)), (hF.block _ (Array.getElem?_eq_some_iff.1 h.2.1).1 (fun hx => by have h1 := (fun (b : Nat) (hb : ug ≤ b ∧ b < wg.heap.size) => hb) _ hx; have h2 := ORD.out; omega)).trans h.2.1, (hF.block _ (Array.getElem?_eq_some_iff.1 h.2.2.1).1 (fun hx => by have h1 := (fun (b : Nat) (hb : ug ≤ b ∧ b < wg.heap.size) => hb) _ hx; have h2 := ORD.out; omega)).trans h.2.2.1, h.2.2.2.1.frm hF (fun b hb hx => by have h1 := (fun (b : Nat) (hb : ug ≤ b ∧ b < wg.heap.size) => hb) b hx; have h2 := ORD.out; have h3 : b < w2.heap.size := hb; omega), (hF.block _ (Array.getElem?_eq_some_iff.1 h.2.2.2.2.1).1 (fun hx => by have h1 := (fun (b : Nat) (hb : ug ≤ b ∧ b < wg.heap.size) => hb) _ hx; have h2 := ORD.out; omega)).trans h.2.2.2.2.1, h.2.2.2.2.2.1.frm hF (fun b hb hx => by have h1 := (fun (b : Nat) (hb : ug ≤ b ∧ b < wg.heap.size) => hb) b hx; have h2 := ORD.out; have h3 := (fun b hb => YS0.out 1 b hb) b hb; omega), h.2.2.2.2.2.2.1.frm hF (fun b hb hx => by have h1 := (fun (b : Nat) (hb : ug ≤ b ∧ b < wg.heap.size) => hb) b hx; have h2 := ORD.out; have h3 := (fun b hb => YS0.out 2 b hb) b hb; omega), (hF.block _ (Array.getElem?_eq_some_iff.1 h.2.2.2.2.2.2.2.1).1 (fun hx => by have h1 := (fun (b : Nat) (hb : ug ≤ b ∧ b < wg.heap.size) => hb) _ hx; have h2 := ORD.out; omega)).trans h.2.2.2.2.2.2.2.1, ho0⟩
  refine (mkDRow R0 ga gc 1 (fun c => ug ≤ c ∧ c < wg.heap.size) _ (HRB.out.1 1 (by omega)) (by omega) HRW.out (N4.out.2.2.2.2.2.2.2.2)).mono ?_
  rintro e wmg ⟨rfl, ho, hF⟩
  have N5 := Lib.hid (TGF.out _ _ N4.out hF ho)
  clear f_arg0_0 f_arg0_1 f_arg0_2 f_arg0_3 f_w0_0 f_w0_1 f_x0_0 f_x0_1 f_x0_2 f_x0_3 f_g_0 f_g_1
  clear ho hF N4
  have TGL : Hid (∀ W W', (Below w.heap.size w W ∧ W.heap[w.heap.size]? = some (.cells #[.string ⟨x0.nm.toArray⟩, .slice a0_1 x0.cols.length c0_1, .slice a0_2 x0.uq.length c0_2, .bool x0.rt] 41) ∧ W.heap[w2.heap.size]? = some (.cells #[.int .i64 R0.id, .slice ra R0.cells.length rc] 50) ∧ Rd W (· < w2.heap.size) (dAtomSS R0.cells) (.slice ra R0.cells.length rc) ∧ W.heap[wx0.heap.size]? = some (.cells #[.string ⟨x0.nm.toArray⟩, .slice (some ⟨p0_1, 0, none⟩) x0.cols.length x0.cols.length, .slice (some ⟨p0_2, 0, none⟩) x0.uq.length x0.uq.length, .bool x0.rt] 55) ∧ Own W ((dColumnS x0.cols).mkd (1)) (Y0 1) (.slice (some ⟨p0_1, 0, none⟩) x0.cols.length x0.cols.length) ∧ Own W ((dIntS x0.uq).mkd (1 + (dColumnS x0.cols).wd)) (Y0 2) (.slice (some ⟨p0_2, 0, none⟩) x0.uq.length x0.uq.length) ∧ W.heap[wg.heap.size]? = some (.cells #[.int .i64 R0.id, .slice ga R0.cells.length gc] 50) ∧ Own W ((dAtomSS R0.cells).mkd 1) (fun c => ug ≤ c ∧ c < wg.heap.size) (.slice ga R0.cells.length gc)) → Below W.heap.size W W' → (Below w.heap.size w W' ∧ W'.heap[w.heap.size]? = some (.cells #[.string ⟨x0.nm.toArray⟩, .slice a0_1 x0.cols.length c0_1, .slice a0_2 x0.uq.length c0_2, .bool x0.rt] 41) ∧ W'.heap[w2.heap.size]? = some (.cells #[.int .i64 R0.id, .slice ra R0.cells.length rc] 50) ∧ Rd W' (· < w2.heap.size) (dAtomSS R0.cells) (.slice ra R0.cells.length rc) ∧ W'.heap[wx0.heap.size]? = some (.cells #[.string ⟨x0.nm.toArray⟩, .slice (some ⟨p0_1, 0, none⟩) x0.cols.length x0.cols.length, .slice (some ⟨p0_2, 0, none⟩) x0.uq.length x0.uq.length, .bool x0.rt] 55) ∧ Own W' ((dColumnS x0.cols).mkd (1)) (Y0 1) (.slice (some ⟨p0_1, 0, none⟩) x0.cols.length x0.cols.length) ∧ Own W' ((dIntS x0.uq).mkd (1 + (dColumnS x0.cols).wd)) (Y0 2) (.slice (some ⟨p0_2, 0, none⟩) x0.uq.length x0.uq.length) ∧ W'.heap[wg.heap.size]? = some (.cells #[.int .i64 R0.id, .slice ga R0.cells.length gc] 50) ∧ Own W' ((dAtomSS R0.cells).mkd 1) (fun c => ug ≤ c ∧ c < wg.heap.size) (.slice ga R0.cells.length gc))) := fun W W' h hB => ⟨h.1.trans (hB.mono h.1.size), heap_keptD h.2.1 hB, heap_keptD h.2.2.1 hB, h.2.2.2.1.later hB, heap_keptD h.2.2.2.2.1 hB, h.2.2.2.2.2.1.later hB, h.2.2.2.2.2.2.1.later hB, heap_keptD h.2.2.2.2.2.2.2.1 hB, h.2.2.2.2.2.2.2.2.later hB⟩
  have HD : Hid (∀ (W : World), Rd W (fun _ => True) ((dAtomSS R0.cells).mkd 1) (.slice ga R0.cells.length gc) → Calls Try.prog 25 #[.agg #[.int .i64 R0.id, .slice ga R0.cells.length gc], .int .i64 1] W fun e w' => e = .returned (.int .i64 (1 + (dAtomSS R0.cells).wd : Nat)) ∧ Below W.heap.size W w') := fun W h => hdDRow R0 ga gc 1 _ W (HRB.out.1 1 (by omega)) (by omega) HRW.out h
  obtain ⟨kg, hkg⟩ : ∃ y : Nat, y = 1 + (dAtomSS R0.cells).wd := ⟨_, rfl⟩
  rw [← hkg] at HD ⊢
  have dkg : decide ((kg : Int) < 0) = false := by simp
  have nkg : ((kg : Int) != (kg : Int)) = false := by simp
  clear hkg
  have f_arg0_0 := cell_at (o := 0) N5.out.2.1 rfl
  have f_arg0_1 := cell_at (o := 1) N5.out.2.1 rfl
  have f_arg0_2 := cell_at (o := 2) N5.out.2.1 rfl
  have f_arg0_3 := cell_at (o := 3) N5.out.2.1 rfl
  have f_w0_0 := cell_at (o := 0) N5.out.2.2.1 rfl
  have f_w0_1 := cell_at (o := 1) N5.out.2.2.1 rfl
  have f_x0_0 := cell_at (o := 0) N5.out.2.2.2.2.1 rfl
  have f_x0_1 := cell_at (o := 1) N5.out.2.2.2.2.1 rfl
  have f_x0_2 := cell_at (o := 2) N5.out.2.2.2.2.1 rfl
  have f_x0_3 := cell_at (o := 3) N5.out.2.2.2.2.1 rfl
  have f_g_0 := cell_at (o := 0) N5.out.2.2.2.2.2.2.2.1 rfl
  have f_g_1 := cell_at (o := 1) N5.out.2.2.2.2.2.2.2.1 rfl
  go_wp2_with fail
  refine (HD.out _ (Rd.any (Own.rd' (N5.out.2.2.2.2.2.2.2.2)))).mono ?_
  rintro e wh5 ⟨rfl, hB⟩
  have N6 := Lib.hid (TGL.out _ _ N5.out hB)
  clear f_arg0_0 f_arg0_1 f_arg0_2 f_arg0_3 f_w0_0 f_w0_1 f_x0_0 f_x0_1 f_x0_2 f_x0_3 f_g_0 f_g_1
  clear hB N5
  have f_arg0_0 := cell_at (o := 0) N6.out.2.1 rfl
  have f_arg0_1 := cell_at (o := 1) N6.out.2.1 rfl
  have f_arg0_2 := cell_at (o := 2) N6.out.2.1 rfl
  have f_arg0_3 := cell_at (o := 3) N6.out.2.1 rfl
  have f_w0_0 := cell_at (o := 0) N6.out.2.2.1 rfl
  have f_w0_1 := cell_at (o := 1) N6.out.2.2.1 rfl
  have f_x0_0 := cell_at (o := 0) N6.out.2.2.2.2.1 rfl
  have f_x0_1 := cell_at (o := 1) N6.out.2.2.2.2.1 rfl
  have f_x0_2 := cell_at (o := 2) N6.out.2.2.2.2.1 rfl
  have f_x0_3 := cell_at (o := 3) N6.out.2.2.2.2.1 rfl
  have f_g_0 := cell_at (o := 0) N6.out.2.2.2.2.2.2.2.1 rfl
  have f_g_1 := cell_at (o := 1) N6.out.2.2.2.2.2.2.2.1 rfl
  go_wp2_with fail
  refine (TO0.out _ ⟨N6.out.1, N6.out.2.1⟩).mono ?_
  rintro e wz ⟨q0_1, q0_2, rfl, ho, hB, -⟩
  have RC0_1 : Hid (Rd _ (fun _ => True) (dColumnS x0.cols) (.slice (some ⟨q0_1, 0, none⟩) x0.cols.length x0.cols.length)) := (Owns.one ho (j := 1) (by omega)).rd'.any
  have RC0_2 : Hid (Rd _ (fun _ => True) (dIntS x0.uq) (.slice (some ⟨q0_2, 0, none⟩) x0.uq.length x0.uq.length)) := (Owns.one ho (j := 2) (by omega)).rd'.any
  clear ho
  have N7 := Lib.hid (TGL.out _ _ N6.out hB)
  clear f_arg0_0 f_arg0_1 f_arg0_2 f_arg0_3 f_w0_0 f_w0_1 f_x0_0 f_x0_1 f_x0_2 f_x0_3 f_g_0 f_g_1
  clear hB N6
  have f_arg0_0 := cell_at (o := 0) N7.out.2.1 rfl
  have f_arg0_1 := cell_at (o := 1) N7.out.2.1 rfl
  have f_arg0_2 := cell_at (o := 2) N7.out.2.1 rfl
  have f_arg0_3 := cell_at (o := 3) N7.out.2.1 rfl
  have f_w0_0 := cell_at (o := 0) N7.out.2.2.1 rfl
  have f_w0_1 := cell_at (o := 1) N7.out.2.2.1 rfl
  have f_x0_0 := cell_at (o := 0) N7.out.2.2.2.2.1 rfl
  have f_x0_1 := cell_at (o := 1) N7.out.2.2.2.2.1 rfl
  have f_x0_2 := cell_at (o := 2) N7.out.2.2.2.2.1 rfl
  have f_x0_3 := cell_at (o := 3) N7.out.2.2.2.2.1 rfl
  have f_g_0 := cell_at (o := 0) N7.out.2.2.2.2.2.2.2.1 rfl
  have f_g_1 := cell_at (o := 1) N7.out.2.2.2.2.2.2.2.1 rfl
  go_wp2_with fail
  refine (CI.out _ _ _ _ _ RC0_1.out RC0_2.out).mono ?_
  rintro e wy ⟨ya, yc, rfl, ho, hB⟩
  have hm := TGL.out _ _ N7.out hB
  have hq := TGL.out _ _ hm (below_allocD wy (.cells #[.int .i64 R0.id, .slice ya R0.cells.length yc] 50))
  have BH : Hid ((wy.alloc (.cells #[.int .i64 R0.id, .slice ya R0.cells.length yc] 50)).heap[wy.heap.size]? = some (.cells #[.int .i64 R0.id, .slice ya R0.cells.length yc] 50) ∧ Rd (wy.alloc (.cells #[.int .i64 R0.id, .slice ya R0.cells.length yc] 50)) (fun _ => True) (dAtomSS R0.cells) (.slice ya R0.cells.length yc)) := ⟨heap_newD _ _, Rd.later (Rd.any (Own.rd' ho)) (below_allocD _ _)⟩
  have N8 := Lib.hid hq
  clear f_arg0_0 f_arg0_1 f_arg0_2 f_arg0_3 f_w0_0 f_w0_1 f_x0_0 f_x0_1 f_x0_2 f_x0_3 f_g_0 f_g_1
  clear hm ho hB hq N7 RC0_1 RC0_2
  have f_arg0_0 := cell_at (o := 0) N8.out.2.1 rfl
  have f_arg0_1 := cell_at (o := 1) N8.out.2.1 rfl
  have f_arg0_2 := cell_at (o := 2) N8.out.2.1 rfl
  have f_arg0_3 := cell_at (o := 3) N8.out.2.1 rfl
  have f_w0_0 := cell_at (o := 0) N8.out.2.2.1 rfl
  have f_w0_1 := cell_at (o := 1) N8.out.2.2.1 rfl
  have f_x0_0 := cell_at (o := 0) N8.out.2.2.2.2.1 rfl
  have f_x0_1 := cell_at (o := 1) N8.out.2.2.2.2.1 rfl
  have f_x0_2 := cell_at (o := 2) N8.out.2.2.2.2.1 rfl
  have f_x0_3 := cell_at (o := 3) N8.out.2.2.2.2.1 rfl
  have f_g_0 := cell_at (o := 0) N8.out.2.2.2.2.2.2.2.1 rfl
  have f_g_1 := cell_at (o := 1) N8.out.2.2.2.2.2.2.2.1 rfl
  have h_0 := cell_at (o := 0) BH.out.1 rfl
  have h_1 := cell_at (o := 1) BH.out.1 rfl
  go_wp2_with fail
  refine (EQR.out _ _ _ _ _ BH.out.2 (Rd.any (N8.out.2.2.2.1))).mono ?_
  rintro e wv ⟨rfl, hB⟩
  have N9 := Lib.hid (TGL.out _ _ N8.out hB)
  clear f_arg0_0 f_arg0_1 f_arg0_2 f_arg0_3 f_w0_0 f_w0_1 f_x0_0 f_x0_1 f_x0_2 f_x0_3 f_g_0 f_g_1
  clear hB N8
  have f_arg0_0 := cell_at (o := 0) N9.out.2.1 rfl
  have f_arg0_1 := cell_at (o := 1) N9.out.2.1 rfl
  have f_arg0_2 := cell_at (o := 2) N9.out.2.1 rfl
  have f_arg0_3 := cell_at (o := 3) N9.out.2.1 rfl
  have f_w0_0 := cell_at (o := 0) N9.out.2.2.1 rfl
  have f_w0_1 := cell_at (o := 1) N9.out.2.2.1 rfl
  have f_x0_0 := cell_at (o := 0) N9.out.2.2.2.2.1 rfl
  have f_x0_1 := cell_at (o := 1) N9.out.2.2.2.2.1 rfl
  have f_x0_2 := cell_at (o := 2) N9.out.2.2.2.2.1 rfl
  have f_x0_3 := cell_at (o := 3) N9.out.2.2.2.2.1 rfl
  have f_g_0 := cell_at (o := 0) N9.out.2.2.2.2.2.2.2.1 rfl
  have f_g_1 := cell_at (o := 1) N9.out.2.2.2.2.2.2.2.1 rfl
  clear h_0 h_1
  go_wp2_with fail
  refine (HD.out _ (Rd.any (Own.rd' (N9.out.2.2.2.2.2.2.2.2)))).mono ?_
  rintro e wh9 ⟨rfl, hB⟩
  have N10 := Lib.hid (TGL.out _ _ N9.out hB)
  clear f_arg0_0 f_arg0_1 f_arg0_2 f_arg0_3 f_w0_0 f_w0_1 f_x0_0 f_x0_1 f_x0_2 f_x0_3 f_g_0 f_g_1
  clear hB N9
  have f_arg0_0 := cell_at (o := 0) N10.out.2.1 rfl
  have f_arg0_1 := cell_at (o := 1) N10.out.2.1 rfl
  have f_arg0_2 := cell_at (o := 2) N10.out.2.1 rfl
  have f_arg0_3 := cell_at (o := 3) N10.out.2.1 rfl
  have f_w0_0 := cell_at (o := 0) N10.out.2.2.1 rfl
  have f_w0_1 := cell_at (o := 1) N10.out.2.2.1 rfl
  have f_x0_0 := cell_at (o := 0) N10.out.2.2.2.2.1 rfl
  have f_x0_1 := cell_at (o := 1) N10.out.2.2.2.2.1 rfl
  have f_x0_2 := cell_at (o := 2) N10.out.2.2.2.2.1 rfl
  have f_x0_3 := cell_at (o := 3) N10.out.2.2.2.2.1 rfl
  have f_g_0 := cell_at (o := 0) N10.out.2.2.2.2.2.2.2.1 rfl
  have f_g_1 := cell_at (o := 1) N10.out.2.2.2.2.2.2.2.1 rfl
  go_wp2_with fail
  go_ret
  exact ⟨rfl, N10.out.1⟩
end Go.Proofs.Ytkjfefjkelckiaa
