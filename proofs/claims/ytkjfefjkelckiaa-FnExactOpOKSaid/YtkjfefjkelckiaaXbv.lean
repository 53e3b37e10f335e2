import Derived.Test.YtkjfefjkelckiaaXbp
import Derived.Test.YtkjfefjkelckiaaXbu
import Derived.Test.YtkjfefjkelckiaaXaz
import Derived.Deep.RegionHeld3
import Derived.Deep.CutRange
import Derived.Test.YtkjfefjkelckiaaXTk
namespace Go.Proofs.Ytkjfefjkelckiaa
open Go.RowKit
set_option linter.unusedSimpArgs false
set_option maxRecDepth 100000 in
set_option maxHeartbeats 12800000 in
theorem lawOpOK (x0 : OpV) (a0_3 : Option Addr) (c0_3 : Nat) (a0_4 : Option Addr) (c0_4 : Nat) (a0_5 : Option Addr) (c0_5 : Nat) (a0_6 : Option Addr) (c0_6 : Nat) (w : World) (l0_3 : (dCondS x0.wh).le maxLen) (l0_4 : (dSetS x0.row).le maxLen) (l0_5 : (dMutS x0.mu).le maxLen) (l0_6 : (dStringS x0.cs).le maxLen) (l0_0 : iOK x0.kd) (l0_1 : x0.tb.length ≤ maxLen) (l0_2 : x0.nm.length ≤ maxLen) (r0_3 : Rd w (· < w.heap.size) (dCondS x0.wh) (.slice a0_3 x0.wh.length c0_3)) (r0_4 : Rd w (· < w.heap.size) (dSetS x0.row) (.slice a0_4 x0.row.length c0_4)) (r0_5 : Rd w (· < w.heap.size) (dMutS x0.mu) (.slice a0_5 x0.mu.length c0_5)) (r0_6 : Rd w (· < w.heap.size) (dStringS x0.cs) (.slice a0_6 x0.cs.length c0_6)) :
    Calls Try.prog 3 #[.agg #[.int .i64 x0.kd, .string ⟨x0.tb.toArray⟩, .string ⟨x0.nm.toArray⟩, .slice a0_3 x0.wh.length c0_3, .slice a0_4 x0.row.length c0_4, .slice a0_5 x0.mu.length c0_5, .slice a0_6 x0.cs.length c0_6, .bool x0.un]] w fun e w' => e = .returned (.bool true) ∧ Below w.heap.size w w' := by
  have HL0_3 := Lib.hid l0_3
  have HL0_4 := Lib.hid l0_4
  have HL0_5 := Lib.hid l0_5
  have HL0_6 := Lib.hid l0_6
  have HO0 : Hid (∀ j, j < 8 → (dOp x0 j).le maxLen) := fun j hj => by
    rcases (by omega : j = 0 ∨ j = 1 ∨ j = 2 ∨ j = 3 ∨ j = 4 ∨ j = 5 ∨ j = 6 ∨ j = 7) with rfl | rfl | rfl | rfl | rfl | rfl | rfl | rfl
    · exact l0_0
    · exact l0_1
    · exact l0_2
    · exact l0_3
    · exact l0_4
    · exact l0_5
    · exact l0_6
    · exact trivial
  have RA0_3 : Hid (∀ W, Below w.heap.size w W → Rd W (· < w.heap.size) (dCondS x0.wh) (.slice a0_3 x0.wh.length c0_3)) := fun W h => Rd.same (fun b hb => h.block b hb) (fun _ h => h) _ _ r0_3
  have RA0_4 : Hid (∀ W, Below w.heap.size w W → Rd W (· < w.heap.size) (dSetS x0.row) (.slice a0_4 x0.row.length c0_4)) := fun W h => Rd.same (fun b hb => h.block b hb) (fun _ h => h) _ _ r0_4
  have RA0_5 : Hid (∀ W, Below w.heap.size w W → Rd W (· < w.heap.size) (dMutS x0.mu) (.slice a0_5 x0.mu.length c0_5)) := fun W h => Rd.same (fun b hb => h.block b hb) (fun _ h => h) _ _ r0_5
  have RA0_6 : Hid (∀ W, Below w.heap.size w W → Rd W (· < w.heap.size) (dStringS x0.cs) (.slice a0_6 x0.cs.length c0_6)) := fun W h => Rd.same (fun b hb => h.block b hb) (fun _ h => h) _ _ r0_6
  have ALAT : Hid (∀ W W', (Below w.heap.size w W ∧ W.heap[w.heap.size]? = some (.cells #[.int .i64 x0.kd, .string ⟨x0.tb.toArray⟩, .string ⟨x0.nm.toArray⟩, .slice a0_3 x0.wh.length c0_3, .slice a0_4 x0.row.length c0_4, .slice a0_5 x0.mu.length c0_5, .slice a0_6 x0.cs.length c0_6, .bool x0.un] 27)) → Below W.heap.size W W' → (Below w.heap.size w W' ∧ W'.heap[w.heap.size]? = some (.cells #[.int .i64 x0.kd, .string ⟨x0.tb.toArray⟩, .string ⟨x0.nm.toArray⟩, .slice a0_3 x0.wh.length c0_3, .slice a0_4 x0.row.length c0_4, .slice a0_5 x0.mu.length c0_5, .slice a0_6 x0.cs.length c0_6, .bool x0.un] 27))) := fun W W' h hB => ⟨h.1.trans (hB.mono h.1.size), heap_keptD h.2 hB⟩
  have A0 : Hid (Below w.heap.size w (w.alloc (.cells #[.int .i64 x0.kd, .string ⟨x0.tb.toArray⟩, .string ⟨x0.nm.toArray⟩, .slice a0_3 x0.wh.length c0_3, .slice a0_4 x0.row.length c0_4, .slice a0_5 x0.mu.length c0_5, .slice a0_6 x0.cs.length c0_6, .bool x0.un] 27)) ∧ (w.alloc (.cells #[.int .i64 x0.kd, .string ⟨x0.tb.toArray⟩, .string ⟨x0.nm.toArray⟩, .slice a0_3 x0.wh.length c0_3, .slice a0_4 x0.row.length c0_4, .slice a0_5 x0.mu.length c0_5, .slice a0_6 x0.cs.length c0_6, .bool x0.un] 27)).heap[w.heap.size]? = some (.cells #[.int .i64 x0.kd, .string ⟨x0.tb.toArray⟩, .string ⟨x0.nm.toArray⟩, .slice a0_3 x0.wh.length c0_3, .slice a0_4 x0.row.length c0_4, .slice a0_5 x0.mu.length c0_5, .slice a0_6 x0.cs.length c0_6, .bool x0.un] 27)) := by
    exact ⟨below_allocD _ _, heap_newD _ _⟩
  clear l0_3 r0_3 l0_4 r0_4 l0_5 r0_5 l0_6 r0_6 l0_0
  have x0_0 := cell_at (o := 0) A0.out.2 rfl
  have x0_1 := cell_at (o := 1) A0.out.2 rfl
  have x0_2 := cell_at (o := 2) A0.out.2 rfl
  have x0_3 := cell_at (o := 3) A0.out.2 rfl
  have x0_4 := cell_at (o := 4) A0.out.2 rfl
  have x0_5 := cell_at (o := 5) A0.out.2 rfl
  have x0_6 := cell_at (o := 6) A0.out.2 rfl
  have x0_7 := cell_at (o := 7) A0.out.2 rfl
  go_enter Try.func3, Try.ntmps3
  go_wp2_with fail
  have bl : Hid ((0 : Int) ≤ 1048576 ∧ (1048576 : Int) ≤ 1048576) := by show _ ∧ _; omega
  refine (szDOp x0 a0_3 c0_3 a0_4 c0_4 a0_5 c0_5 a0_6 c0_6 1048576 _ _ bl.out.1 bl.out.2 HO0.out (RA0_3.out _ A0.out.1) (RA0_4.out _ A0.out.1) (RA0_5.out _ A0.out.1) (RA0_6.out _ A0.out.1)).mono ?_
  rintro e ws0 ⟨rfl, hB⟩
  have AS0 := Lib.hid (ALAT.out _ _ A0.out hB)
  clear hB A0 x0_0 x0_1 x0_2 x0_3 x0_4 x0_5 x0_6 x0_7
  have x0_0 := cell_at (o := 0) AS0.out.2 rfl
  have x0_1 := cell_at (o := 1) AS0.out.2 rfl
  have x0_2 := cell_at (o := 2) AS0.out.2 rfl
  have x0_3 := cell_at (o := 3) AS0.out.2 rfl
  have x0_4 := cell_at (o := 4) AS0.out.2 rfl
  have x0_5 := cell_at (o := 5) AS0.out.2 rfl
  have x0_6 := cell_at (o := 6) AS0.out.2 rfl
  have x0_7 := cell_at (o := 7) AS0.out.2 rfl
  by_cases hz0 : (1048576 : Int) - (szT 8 (dOp x0) : Int) < 0
  case pos =>
    rw [less_no hz0]
    go_wp2_with fail
    go_ret
    exact ⟨rfl, AS0.out.1⟩
  rw [less_yes (by omega)]
  obtain ⟨L0, hL0⟩ : ∃ L0 : Int, L0 = 1048576 - (szT 8 (dOp x0) : Int) := ⟨_, rfl⟩
  rw [← hL0]
  have dL0 : decide (L0 < 0) = false := decide_eq_false (by omega)
  have HZ0 : Hid (szT 8 (dOp x0) ≤ 1048576) := by have := bl.out; show _ ≤ _; omega
  have b2 : Hid (0 ≤ L0 ∧ L0 ≤ 1048576) := by have := bl.out; show _ ∧ _; omega
  clear hz0 hL0 bl
  have bl := b2
  clear b2
  go_wp2_with fail
  have HK0 : Hid (∀ j, j < 8 → (dOp x0 j).le 1048576) := fun j hj => D.le_of_sz _ (HO0.out j hj) (Nat.le_trans (sumN_le (g := fun j => (dOp x0 j).sz) hj) HZ0.out)
  have TO0 : Hid (∀ W, (Below w.heap.size w W ∧ W.heap[w.heap.size]? = some (.cells #[.int .i64 x0.kd, .string ⟨x0.tb.toArray⟩, .string ⟨x0.nm.toArray⟩, .slice a0_3 x0.wh.length c0_3, .slice a0_4 x0.row.length c0_4, .slice a0_5 x0.mu.length c0_5, .slice a0_6 x0.cs.length c0_6, .bool x0.un] 27)) → Calls Try.prog 8 #[.agg #[.int .i64 x0.kd, .string ⟨x0.tb.toArray⟩, .string ⟨x0.nm.toArray⟩, .slice a0_3 x0.wh.length c0_3, .slice a0_4 x0.row.length c0_4, .slice a0_5 x0.mu.length c0_5, .slice a0_6 x0.cs.length c0_6, .bool x0.un]] W fun e w' => ∃ p3 : Nat, ∃ p4 : Nat, ∃ p5 : Nat, ∃ p6 : Nat, e = .returned (.agg #[.int .i64 x0.kd, .string ⟨x0.tb.toArray⟩, .string ⟨x0.nm.toArray⟩, .slice (some ⟨p3, 0, none⟩) x0.wh.length x0.wh.length, .slice (some ⟨p4, 0, none⟩) x0.row.length x0.row.length, .slice (some ⟨p5, 0, none⟩) x0.mu.length x0.mu.length, .slice (some ⟨p6, 0, none⟩) x0.cs.length x0.cs.length, .bool x0.un]) ∧ Owns w' 8 (dOp x0) (vat [.int .i64 x0.kd, .string ⟨x0.tb.toArray⟩, .string ⟨x0.nm.toArray⟩, .slice (some ⟨p3, 0, none⟩) x0.wh.length x0.wh.length, .slice (some ⟨p4, 0, none⟩) x0.row.length x0.row.length, .slice (some ⟨p5, 0, none⟩) x0.mu.length x0.mu.length, .slice (some ⟨p6, 0, none⟩) x0.cs.length x0.cs.length, .bool x0.un]) (fun c => W.heap.size ≤ c ∧ c < w'.heap.size) ∧ Below W.heap.size W w' ∧ (Below w.heap.size w w' ∧ w'.heap[w.heap.size]? = some (.cells #[.int .i64 x0.kd, .string ⟨x0.tb.toArray⟩, .string ⟨x0.nm.toArray⟩, .slice a0_3 x0.wh.length c0_3, .slice a0_4 x0.row.length c0_4, .slice a0_5 x0.mu.length c0_5, .slice a0_6 x0.cs.length c0_6, .bool x0.un] 27))) := fun W h => (toDOp x0 a0_3 c0_3 a0_4 c0_4 a0_5 c0_5 a0_6 c0_6 _ W HK0.out (RA0_3.out W h.1) (RA0_4.out W h.1) (RA0_5.out W h.1) (RA0_6.out W h.1)).mono (fun e w' ⟨p3, p4, p5, p6, he, ho, hB⟩ => ⟨p3, p4, p5, p6, he, ho, hB, ALAT.out _ _ h hB⟩)
  have CS : Hid (∀ (W : World) (b0_3 : Option Addr) (e0_3 : Nat) (b0_4 : Option Addr) (e0_4 : Nat) (b0_5 : Option Addr) (e0_5 : Nat) (b0_6 : Option Addr) (e0_6 : Nat), Rd W (fun _ => True) (dCondS x0.wh) (.slice b0_3 x0.wh.length e0_3) → Rd W (fun _ => True) (dSetS x0.row) (.slice b0_4 x0.row.length e0_4) → Rd W (fun _ => True) (dMutS x0.mu) (.slice b0_5 x0.mu.length e0_5) → Rd W (fun _ => True) (dStringS x0.cs) (.slice b0_6 x0.cs.length e0_6) → Calls Try.prog 7 #[.agg #[.int .i64 x0.kd, .string ⟨x0.tb.toArray⟩, .string ⟨x0.nm.toArray⟩, .slice b0_3 x0.wh.length e0_3, .slice b0_4 x0.row.length e0_4, .slice b0_5 x0.mu.length e0_5, .slice b0_6 x0.cs.length e0_6, .bool x0.un]] W fun e w' => e = .returned (.bool (opB x0)) ∧ Below W.heap.size W w') := fun W b0_3 e0_3 b0_4 e0_4 b0_5 e0_5 b0_6 e0_6 h0_3 h0_4 h0_5 h0_6 => opOKs x0.kd x0.tb x0.nm x0.wh x0.row x0.mu x0.cs x0.un b0_3 e0_3 b0_4 e0_4 b0_5 e0_5 b0_6 e0_6 _ W (HO0.out 1 (by omega)) (HO0.out 2 (by omega)) HL0_3.out HL0_4.out HL0_5.out HL0_6.out h0_3 h0_4 h0_5 h0_6
  have CI : Hid (∀ (W : World) (b0_3 : Option Addr) (e0_3 : Nat) (b0_4 : Option Addr) (e0_4 : Nat) (b0_5 : Option Addr) (e0_5 : Nat) (b0_6 : Option Addr) (e0_6 : Nat), Rd W (fun _ => True) (dCondS x0.wh) (.slice b0_3 x0.wh.length e0_3) → Rd W (fun _ => True) (dSetS x0.row) (.slice b0_4 x0.row.length e0_4) → Rd W (fun _ => True) (dMutS x0.mu) (.slice b0_5 x0.mu.length e0_5) → Rd W (fun _ => True) (dStringS x0.cs) (.slice b0_6 x0.cs.length e0_6) → Calls Try.prog 9 #[.agg #[.int .i64 x0.kd, .string ⟨x0.tb.toArray⟩, .string ⟨x0.nm.toArray⟩, .slice b0_3 x0.wh.length e0_3, .slice b0_4 x0.row.length e0_4, .slice b0_5 x0.mu.length e0_5, .slice b0_6 x0.cs.length e0_6, .bool x0.un]] W fun e w' => e = .returned (.bool (opB x0)) ∧ Below W.heap.size W w') := fun W b0_3 e0_3 b0_4 e0_4 b0_5 e0_5 b0_6 e0_6 h0_3 h0_4 h0_5 h0_6 => opOKi x0.kd x0.tb x0.nm x0.wh x0.row x0.mu x0.cs x0.un b0_3 e0_3 b0_4 e0_4 b0_5 e0_5 b0_6 e0_6 _ W (HO0.out 1 (by omega)) (HO0.out 2 (by omega)) HL0_3.out HL0_4.out HL0_5.out HL0_6.out h0_3 h0_4 h0_5 h0_6
  have nq0 := bne_self_eq_false (opB x0)
  generalize (opB x0) = R0 at *
  have EQ0 : Hid (∀ (W : World) (b3 : Option Addr) (e3 : Nat) (f3 : Option Addr) (g3 : Nat) (b4 : Option Addr) (e4 : Nat) (f4 : Option Addr) (g4 : Nat) (b5 : Option Addr) (e5 : Nat) (f5 : Option Addr) (g5 : Nat) (b6 : Option Addr) (e6 : Nat) (f6 : Option Addr) (g6 : Nat), Rd W (fun _ => True) (dCondS x0.wh) (.slice b3 x0.wh.length e3) → Rd W (fun _ => True) (dSetS x0.row) (.slice b4 x0.row.length e4) → Rd W (fun _ => True) (dMutS x0.mu) (.slice b5 x0.mu.length e5) → Rd W (fun _ => True) (dStringS x0.cs) (.slice b6 x0.cs.length e6) → Rd W (fun _ => True) (dCondS x0.wh) (.slice f3 x0.wh.length g3) → Rd W (fun _ => True) (dSetS x0.row) (.slice f4 x0.row.length g4) → Rd W (fun _ => True) (dMutS x0.mu) (.slice f5 x0.mu.length g5) → Rd W (fun _ => True) (dStringS x0.cs) (.slice f6 x0.cs.length g6) → Calls Try.prog 10 #[.agg #[.int .i64 x0.kd, .string ⟨x0.tb.toArray⟩, .string ⟨x0.nm.toArray⟩, .slice b3 x0.wh.length e3, .slice b4 x0.row.length e4, .slice b5 x0.mu.length e5, .slice b6 x0.cs.length e6, .bool x0.un], .agg #[.int .i64 x0.kd, .string ⟨x0.tb.toArray⟩, .string ⟨x0.nm.toArray⟩, .slice f3 x0.wh.length g3, .slice f4 x0.row.length g4, .slice f5 x0.mu.length g5, .slice f6 x0.cs.length g6, .bool x0.un]] W fun e w' => e = .returned (.bool true) ∧ Below W.heap.size W w') := fun W b3 e3 f3 g3 b4 e4 f4 g4 b5 e5 f5 g5 b6 e6 f6 g6 h3 h4 h5 h6 i3 i4 i5 i6 => eqDOp x0 b3 e3 b4 e4 b5 e5 b6 e6 f3 g3 f4 g4 f5 g5 f6 g6 _ _ W HO0.out h3 h4 h5 h6 i3 i4 i5 i6
  refine (TO0.out _ AS0.out).mono ?_
  rintro e w1 ⟨p0_3, p0_4, p0_5, p0_6, rfl, ho1, hB1, hA1⟩
  have RC0_3 : Hid (Rd _ (fun _ => True) (dCondS x0.wh) (.slice (some ⟨p0_3, 0, none⟩) x0.wh.length x0.wh.length)) := (Owns.one ho1 (j := 3) (by omega)).rd'.any
  have RC0_4 : Hid (Rd _ (fun _ => True) (dSetS x0.row) (.slice (some ⟨p0_4, 0, none⟩) x0.row.length x0.row.length)) := (Owns.one ho1 (j := 4) (by omega)).rd'.any
  have RC0_5 : Hid (Rd _ (fun _ => True) (dMutS x0.mu) (.slice (some ⟨p0_5, 0, none⟩) x0.mu.length x0.mu.length)) := (Owns.one ho1 (j := 5) (by omega)).rd'.any
  have RC0_6 : Hid (Rd _ (fun _ => True) (dStringS x0.cs) (.slice (some ⟨p0_6, 0, none⟩) x0.cs.length x0.cs.length)) := (Owns.one ho1 (j := 6) (by omega)).rd'.any
  have A1 := Lib.hid hA1
  clear ho1 hB1 hA1 x0_0 x0_1 x0_2 x0_3 x0_4 x0_5 x0_6 x0_7
  have x0_0 := cell_at (o := 0) A1.out.2 rfl
  have x0_1 := cell_at (o := 1) A1.out.2 rfl
  have x0_2 := cell_at (o := 2) A1.out.2 rfl
  have x0_3 := cell_at (o := 3) A1.out.2 rfl
  have x0_4 := cell_at (o := 4) A1.out.2 rfl
  have x0_5 := cell_at (o := 5) A1.out.2 rfl
  have x0_6 := cell_at (o := 6) A1.out.2 rfl
  have x0_7 := cell_at (o := 7) A1.out.2 rfl
  go_wp2_with fail
  refine (CS.out _ _ _ _ _ _ _ _ _ RC0_3.out RC0_4.out RC0_5.out RC0_6.out).mono ?_
  rintro e w2 ⟨rfl, hB2⟩
  have A2 := Lib.hid (ALAT.out _ _ A1.out hB2)
  clear hB2 A1 x0_0 x0_1 x0_2 x0_3 x0_4 x0_5 x0_6 x0_7 RC0_3 RC0_4 RC0_5 RC0_6
  have x0_0 := cell_at (o := 0) A2.out.2 rfl
  have x0_1 := cell_at (o := 1) A2.out.2 rfl
  have x0_2 := cell_at (o := 2) A2.out.2 rfl
  have x0_3 := cell_at (o := 3) A2.out.2 rfl
  have x0_4 := cell_at (o := 4) A2.out.2 rfl
  have x0_5 := cell_at (o := 5) A2.out.2 rfl
  have x0_6 := cell_at (o := 6) A2.out.2 rfl
  have x0_7 := cell_at (o := 7) A2.out.2 rfl
  go_wp2_with fail
  refine (TO0.out _ (by first | exact A2.out | exact ALAT.out _ _ A2.out (Below.refl _ _).drew)).mono ?_
  rintro e wx0 ⟨p0_3, p0_4, p0_5, p0_6, rfl, ho, hB, hA⟩
  have XS0L : Hid (∀ W W', (Below w.heap.size w W ∧ W.heap[w.heap.size]? = some (.cells #[.int .i64 x0.kd, .string ⟨x0.tb.toArray⟩, .string ⟨x0.nm.toArray⟩, .slice a0_3 x0.wh.length c0_3, .slice a0_4 x0.row.length c0_4, .slice a0_5 x0.mu.length c0_5, .slice a0_6 x0.cs.length c0_6, .bool x0.un] 27) ∧ W.heap[wx0.heap.size]? = some (.cells #[.int .i64 x0.kd, .string ⟨x0.tb.toArray⟩, .string ⟨x0.nm.toArray⟩, .slice (some ⟨p0_3, 0, none⟩) x0.wh.length x0.wh.length, .slice (some ⟨p0_4, 0, none⟩) x0.row.length x0.row.length, .slice (some ⟨p0_5, 0, none⟩) x0.mu.length x0.mu.length, .slice (some ⟨p0_6, 0, none⟩) x0.cs.length x0.cs.length, .bool x0.un] 34) ∧ Rd W (fun _ => True) (dCondS x0.wh) (.slice (some ⟨p0_3, 0, none⟩) x0.wh.length x0.wh.length) ∧ Rd W (fun _ => True) (dSetS x0.row) (.slice (some ⟨p0_4, 0, none⟩) x0.row.length x0.row.length) ∧ Rd W (fun _ => True) (dMutS x0.mu) (.slice (some ⟨p0_5, 0, none⟩) x0.mu.length x0.mu.length) ∧ Rd W (fun _ => True) (dStringS x0.cs) (.slice (some ⟨p0_6, 0, none⟩) x0.cs.length x0.cs.length)) → Below W.heap.size W W' → (Below w.heap.size w W' ∧ W'.heap[w.heap.size]? = some (.cells #[.int .i64 x0.kd, .string ⟨x0.tb.toArray⟩, .string ⟨x0.nm.toArray⟩, .slice a0_3 x0.wh.length c0_3, .slice a0_4 x0.row.length c0_4, .slice a0_5 x0.mu.length c0_5, .slice a0_6 x0.cs.length c0_6, .bool x0.un] 27) ∧ W'.heap[wx0.heap.size]? = some (.cells #[.int .i64 x0.kd, .string ⟨x0.tb.toArray⟩, .string ⟨x0.nm.toArray⟩, .slice (some ⟨p0_3, 0, none⟩) x0.wh.length x0.wh.length, .slice (some ⟨p0_4, 0, none⟩) x0.row.length x0.row.length, .slice (some ⟨p0_5, 0, none⟩) x0.mu.length x0.mu.length, .slice (some ⟨p0_6, 0, none⟩) x0.cs.length x0.cs.length, .bool x0.un] 34) ∧ Rd W' (fun _ => True) (dCondS x0.wh) (.slice (some ⟨p0_3, 0, none⟩) x0.wh.length x0.wh.length) ∧ Rd W' (fun _ => True) (dSetS x0.row) (.slice (some ⟨p0_4, 0, none⟩) x0.row.length x0.row.length) ∧ Rd W' (fun _ => True) (dMutS x0.mu) (.slice (some ⟨p0_5, 0, none⟩) x0.mu.length x0.mu.length) ∧ Rd W' (fun _ => True) (dStringS x0.cs) (.slice (some ⟨p0_6, 0, none⟩) x0.cs.length x0.cs.length))) := fun W W' h hB => ⟨h.1.trans (hB.mono h.1.size), heap_keptD h.2.1 hB, heap_keptD h.2.2.1 hB, h.2.2.2.1.later hB, h.2.2.2.2.1.later hB, h.2.2.2.2.2.1.later hB, h.2.2.2.2.2.2.later hB⟩
  have Y0 : Hid (Below w.heap.size w (wx0.alloc (.cells #[.int .i64 x0.kd, .string ⟨x0.tb.toArray⟩, .string ⟨x0.nm.toArray⟩, .slice (some ⟨p0_3, 0, none⟩) x0.wh.length x0.wh.length, .slice (some ⟨p0_4, 0, none⟩) x0.row.length x0.row.length, .slice (some ⟨p0_5, 0, none⟩) x0.mu.length x0.mu.length, .slice (some ⟨p0_6, 0, none⟩) x0.cs.length x0.cs.length, .bool x0.un] 34)) ∧ (wx0.alloc (.cells #[.int .i64 x0.kd, .string ⟨x0.tb.toArray⟩, .string ⟨x0.nm.toArray⟩, .slice (some ⟨p0_3, 0, none⟩) x0.wh.length x0.wh.length, .slice (some ⟨p0_4, 0, none⟩) x0.row.length x0.row.length, .slice (some ⟨p0_5, 0, none⟩) x0.mu.length x0.mu.length, .slice (some ⟨p0_6, 0, none⟩) x0.cs.length x0.cs.length, .bool x0.un] 34)).heap[w.heap.size]? = some (.cells #[.int .i64 x0.kd, .string ⟨x0.tb.toArray⟩, .string ⟨x0.nm.toArray⟩, .slice a0_3 x0.wh.length c0_3, .slice a0_4 x0.row.length c0_4, .slice a0_5 x0.mu.length c0_5, .slice a0_6 x0.cs.length c0_6, .bool x0.un] 27) ∧ (wx0.alloc (.cells #[.int .i64 x0.kd, .string ⟨x0.tb.toArray⟩, .string ⟨x0.nm.toArray⟩, .slice (some ⟨p0_3, 0, none⟩) x0.wh.length x0.wh.length, .slice (some ⟨p0_4, 0, none⟩) x0.row.length x0.row.length, .slice (some ⟨p0_5, 0, none⟩) x0.mu.length x0.mu.length, .slice (some ⟨p0_6, 0, none⟩) x0.cs.length x0.cs.length, .bool x0.un] 34)).heap[wx0.heap.size]? = some (.cells #[.int .i64 x0.kd, .string ⟨x0.tb.toArray⟩, .string ⟨x0.nm.toArray⟩, .slice (some ⟨p0_3, 0, none⟩) x0.wh.length x0.wh.length, .slice (some ⟨p0_4, 0, none⟩) x0.row.length x0.row.length, .slice (some ⟨p0_5, 0, none⟩) x0.mu.length x0.mu.length, .slice (some ⟨p0_6, 0, none⟩) x0.cs.length x0.cs.length, .bool x0.un] 34) ∧ Rd (wx0.alloc (.cells #[.int .i64 x0.kd, .string ⟨x0.tb.toArray⟩, .string ⟨x0.nm.toArray⟩, .slice (some ⟨p0_3, 0, none⟩) x0.wh.length x0.wh.length, .slice (some ⟨p0_4, 0, none⟩) x0.row.length x0.row.length, .slice (some ⟨p0_5, 0, none⟩) x0.mu.length x0.mu.length, .slice (some ⟨p0_6, 0, none⟩) x0.cs.length x0.cs.length, .bool x0.un] 34)) (fun _ => True) (dCondS x0.wh) (.slice (some ⟨p0_3, 0, none⟩) x0.wh.length x0.wh.length) ∧ Rd (wx0.alloc (.cells #[.int .i64 x0.kd, .string ⟨x0.tb.toArray⟩, .string ⟨x0.nm.toArray⟩, .slice (some ⟨p0_3, 0, none⟩) x0.wh.length x0.wh.length, .slice (some ⟨p0_4, 0, none⟩) x0.row.length x0.row.length, .slice (some ⟨p0_5, 0, none⟩) x0.mu.length x0.mu.length, .slice (some ⟨p0_6, 0, none⟩) x0.cs.length x0.cs.length, .bool x0.un] 34)) (fun _ => True) (dSetS x0.row) (.slice (some ⟨p0_4, 0, none⟩) x0.row.length x0.row.length) ∧ Rd (wx0.alloc (.cells #[.int .i64 x0.kd, .string ⟨x0.tb.toArray⟩, .string ⟨x0.nm.toArray⟩, .slice (some ⟨p0_3, 0, none⟩) x0.wh.length x0.wh.length, .slice (some ⟨p0_4, 0, none⟩) x0.row.length x0.row.length, .slice (some ⟨p0_5, 0, none⟩) x0.mu.length x0.mu.length, .slice (some ⟨p0_6, 0, none⟩) x0.cs.length x0.cs.length, .bool x0.un] 34)) (fun _ => True) (dMutS x0.mu) (.slice (some ⟨p0_5, 0, none⟩) x0.mu.length x0.mu.length) ∧ Rd (wx0.alloc (.cells #[.int .i64 x0.kd, .string ⟨x0.tb.toArray⟩, .string ⟨x0.nm.toArray⟩, .slice (some ⟨p0_3, 0, none⟩) x0.wh.length x0.wh.length, .slice (some ⟨p0_4, 0, none⟩) x0.row.length x0.row.length, .slice (some ⟨p0_5, 0, none⟩) x0.mu.length x0.mu.length, .slice (some ⟨p0_6, 0, none⟩) x0.cs.length x0.cs.length, .bool x0.un] 34)) (fun _ => True) (dStringS x0.cs) (.slice (some ⟨p0_6, 0, none⟩) x0.cs.length x0.cs.length)) := ⟨hA.1.trans ((below_allocD _ _).mono hA.1.size), heap_keptD hA.2 (below_allocD _ _), heap_newD _ _, Rd.later ((Owns.one ho (j := 3) (by omega)).rd'.any) (below_allocD _ _), Rd.later ((Owns.one ho (j := 4) (by omega)).rd'.any) (below_allocD _ _), Rd.later ((Owns.one ho (j := 5) (by omega)).rd'.any) (below_allocD _ _), Rd.later ((Owns.one ho (j := 6) (by omega)).rd'.any) (below_allocD _ _)⟩
  clear hB hA ho A2 x0_0 x0_1 x0_2 x0_3 x0_4 x0_5 x0_6 x0_7
  have x0_0 := cell_at (o := 0) Y0.out.2.1 rfl
  have x0_1 := cell_at (o := 1) Y0.out.2.1 rfl
  have x0_2 := cell_at (o := 2) Y0.out.2.1 rfl
  have x0_3 := cell_at (o := 3) Y0.out.2.1 rfl
  have x0_4 := cell_at (o := 4) Y0.out.2.1 rfl
  have x0_5 := cell_at (o := 5) Y0.out.2.1 rfl
  have x0_6 := cell_at (o := 6) Y0.out.2.1 rfl
  have x0_7 := cell_at (o := 7) Y0.out.2.1 rfl
  have y0_0 := cell_at (o := 0) Y0.out.2.2.1 rfl
  have y0_1 := cell_at (o := 1) Y0.out.2.2.1 rfl
  have y0_2 := cell_at (o := 2) Y0.out.2.2.1 rfl
  have y0_3 := cell_at (o := 3) Y0.out.2.2.1 rfl
  have y0_4 := cell_at (o := 4) Y0.out.2.2.1 rfl
  have y0_5 := cell_at (o := 5) Y0.out.2.2.1 rfl
  have y0_6 := cell_at (o := 6) Y0.out.2.2.1 rfl
  have y0_7 := cell_at (o := 7) Y0.out.2.2.1 rfl
  go_wp2_with fail
  refine (CI.out _ _ _ _ _ _ _ _ _ Y0.out.2.2.2.1 Y0.out.2.2.2.2.1 Y0.out.2.2.2.2.2.1 Y0.out.2.2.2.2.2.2).mono ?_
  rintro e wg ⟨rfl, hB⟩
  have Z := Lib.hid (XS0L.out _ _ Y0.out hB)
  clear hB Y0 x0_0 x0_1 x0_2 x0_3 x0_4 x0_5 x0_6 x0_7 y0_0 y0_1 y0_2 y0_3 y0_4 y0_5 y0_6 y0_7
  have x0_0 := cell_at (o := 0) Z.out.2.1 rfl
  have x0_1 := cell_at (o := 1) Z.out.2.1 rfl
  have x0_2 := cell_at (o := 2) Z.out.2.1 rfl
  have x0_3 := cell_at (o := 3) Z.out.2.1 rfl
  have x0_4 := cell_at (o := 4) Z.out.2.1 rfl
  have x0_5 := cell_at (o := 5) Z.out.2.1 rfl
  have x0_6 := cell_at (o := 6) Z.out.2.1 rfl
  have x0_7 := cell_at (o := 7) Z.out.2.1 rfl
  have y0_0 := cell_at (o := 0) Z.out.2.2.1 rfl
  have y0_1 := cell_at (o := 1) Z.out.2.2.1 rfl
  have y0_2 := cell_at (o := 2) Z.out.2.2.1 rfl
  have y0_3 := cell_at (o := 3) Z.out.2.2.1 rfl
  have y0_4 := cell_at (o := 4) Z.out.2.2.1 rfl
  have y0_5 := cell_at (o := 5) Z.out.2.2.1 rfl
  have y0_6 := cell_at (o := 6) Z.out.2.2.1 rfl
  have y0_7 := cell_at (o := 7) Z.out.2.2.1 rfl
  go_wp2_with fail
  have CE0 : Hid (∀ W, (Below w.heap.size w W ∧ W.heap[w.heap.size]? = some (.cells #[.int .i64 x0.kd, .string ⟨x0.tb.toArray⟩, .string ⟨x0.nm.toArray⟩, .slice a0_3 x0.wh.length c0_3, .slice a0_4 x0.row.length c0_4, .slice a0_5 x0.mu.length c0_5, .slice a0_6 x0.cs.length c0_6, .bool x0.un] 27) ∧ W.heap[wx0.heap.size]? = some (.cells #[.int .i64 x0.kd, .string ⟨x0.tb.toArray⟩, .string ⟨x0.nm.toArray⟩, .slice (some ⟨p0_3, 0, none⟩) x0.wh.length x0.wh.length, .slice (some ⟨p0_4, 0, none⟩) x0.row.length x0.row.length, .slice (some ⟨p0_5, 0, none⟩) x0.mu.length x0.mu.length, .slice (some ⟨p0_6, 0, none⟩) x0.cs.length x0.cs.length, .bool x0.un] 34) ∧ Rd W (fun _ => True) (dCondS x0.wh) (.slice (some ⟨p0_3, 0, none⟩) x0.wh.length x0.wh.length) ∧ Rd W (fun _ => True) (dSetS x0.row) (.slice (some ⟨p0_4, 0, none⟩) x0.row.length x0.row.length) ∧ Rd W (fun _ => True) (dMutS x0.mu) (.slice (some ⟨p0_5, 0, none⟩) x0.mu.length x0.mu.length) ∧ Rd W (fun _ => True) (dStringS x0.cs) (.slice (some ⟨p0_6, 0, none⟩) x0.cs.length x0.cs.length)) → (W.cell? ⟨w.heap.size, 0, none⟩ = some (.int .i64 x0.kd) ∧ W.cell? ⟨w.heap.size, 1, none⟩ = some (.string ⟨x0.tb.toArray⟩) ∧ W.cell? ⟨w.heap.size, 2, none⟩ = some (.string ⟨x0.nm.toArray⟩) ∧ W.cell? ⟨w.heap.size, 3, none⟩ = some (.slice a0_3 x0.wh.length c0_3) ∧ W.cell? ⟨w.heap.size, 4, none⟩ = some (.slice a0_4 x0.row.length c0_4) ∧ W.cell? ⟨w.heap.size, 5, none⟩ = some (.slice a0_5 x0.mu.length c0_5) ∧ W.cell? ⟨w.heap.size, 6, none⟩ = some (.slice a0_6 x0.cs.length c0_6) ∧ W.cell? ⟨w.heap.size, 7, none⟩ = some (.bool x0.un) ∧ W.cell? ⟨wx0.heap.size, 0, none⟩ = some (.int .i64 x0.kd) ∧ W.cell? ⟨wx0.heap.size, 1, none⟩ = some (.string ⟨x0.tb.toArray⟩) ∧ W.cell? ⟨wx0.heap.size, 2, none⟩ = some (.string ⟨x0.nm.toArray⟩) ∧ W.cell? ⟨wx0.heap.size, 3, none⟩ = some (.slice (some ⟨p0_3, 0, none⟩) x0.wh.length x0.wh.length) ∧ W.cell? ⟨wx0.heap.size, 4, none⟩ = some (.slice (some ⟨p0_4, 0, none⟩) x0.row.length x0.row.length) ∧ W.cell? ⟨wx0.heap.size, 5, none⟩ = some (.slice (some ⟨p0_5, 0, none⟩) x0.mu.length x0.mu.length) ∧ W.cell? ⟨wx0.heap.size, 6, none⟩ = some (.slice (some ⟨p0_6, 0, none⟩) x0.cs.length x0.cs.length) ∧ W.cell? ⟨wx0.heap.size, 7, none⟩ = some (.bool x0.un))) := fun W h => ⟨cell_at (o := 0) h.2.1 rfl, cell_at (o := 1) h.2.1 rfl, cell_at (o := 2) h.2.1 rfl, cell_at (o := 3) h.2.1 rfl, cell_at (o := 4) h.2.1 rfl, cell_at (o := 5) h.2.1 rfl, cell_at (o := 6) h.2.1 rfl, cell_at (o := 7) h.2.1 rfl, cell_at (o := 0) h.2.2.1 rfl, cell_at (o := 1) h.2.2.1 rfl, cell_at (o := 2) h.2.2.1 rfl, cell_at (o := 3) h.2.2.1 rfl, cell_at (o := 4) h.2.2.1 rfl, cell_at (o := 5) h.2.2.1 rfl, cell_at (o := 6) h.2.2.1 rfl, cell_at (o := 7) h.2.2.1 rfl⟩
  have hx := Z.out
  clear Z
  have XA : Hid (∀ W, (Below w.heap.size w W ∧ W.heap[w.heap.size]? = some (.cells #[.int .i64 x0.kd, .string ⟨x0.tb.toArray⟩, .string ⟨x0.nm.toArray⟩, .slice a0_3 x0.wh.length c0_3, .slice a0_4 x0.row.length c0_4, .slice a0_5 x0.mu.length c0_5, .slice a0_6 x0.cs.length c0_6, .bool x0.un] 27) ∧ W.heap[wx0.heap.size]? = some (.cells #[.int .i64 x0.kd, .string ⟨x0.tb.toArray⟩, .string ⟨x0.nm.toArray⟩, .slice (some ⟨p0_3, 0, none⟩) x0.wh.length x0.wh.length, .slice (some ⟨p0_4, 0, none⟩) x0.row.length x0.row.length, .slice (some ⟨p0_5, 0, none⟩) x0.mu.length x0.mu.length, .slice (some ⟨p0_6, 0, none⟩) x0.cs.length x0.cs.length, .bool x0.un] 34) ∧ Rd W (fun _ => True) (dCondS x0.wh) (.slice (some ⟨p0_3, 0, none⟩) x0.wh.length x0.wh.length) ∧ Rd W (fun _ => True) (dSetS x0.row) (.slice (some ⟨p0_4, 0, none⟩) x0.row.length x0.row.length) ∧ Rd W (fun _ => True) (dMutS x0.mu) (.slice (some ⟨p0_5, 0, none⟩) x0.mu.length x0.mu.length) ∧ Rd W (fun _ => True) (dStringS x0.cs) (.slice (some ⟨p0_6, 0, none⟩) x0.cs.length x0.cs.length)) → (Below w.heap.size w W ∧ W.heap[w.heap.size]? = some (.cells #[.int .i64 x0.kd, .string ⟨x0.tb.toArray⟩, .string ⟨x0.nm.toArray⟩, .slice a0_3 x0.wh.length c0_3, .slice a0_4 x0.row.length c0_4, .slice a0_5 x0.mu.length c0_5, .slice a0_6 x0.cs.length c0_6, .bool x0.un] 27))) := fun W h => ⟨h.1, h.2.1⟩
  refine wp_region_held_drew (S := (fun W => W.cell? ⟨w.heap.size, 0, none⟩ = some (.int .i64 x0.kd) ∧ W.cell? ⟨w.heap.size, 1, none⟩ = some (.string ⟨x0.tb.toArray⟩) ∧ W.cell? ⟨w.heap.size, 2, none⟩ = some (.string ⟨x0.nm.toArray⟩) ∧ W.cell? ⟨w.heap.size, 3, none⟩ = some (.slice a0_3 x0.wh.length c0_3) ∧ W.cell? ⟨w.heap.size, 4, none⟩ = some (.slice a0_4 x0.row.length c0_4) ∧ W.cell? ⟨w.heap.size, 5, none⟩ = some (.slice a0_5 x0.mu.length c0_5) ∧ W.cell? ⟨w.heap.size, 6, none⟩ = some (.slice a0_6 x0.cs.length c0_6) ∧ W.cell? ⟨w.heap.size, 7, none⟩ = some (.bool x0.un) ∧ W.cell? ⟨wx0.heap.size, 0, none⟩ = some (.int .i64 x0.kd) ∧ W.cell? ⟨wx0.heap.size, 1, none⟩ = some (.string ⟨x0.tb.toArray⟩) ∧ W.cell? ⟨wx0.heap.size, 2, none⟩ = some (.string ⟨x0.nm.toArray⟩) ∧ W.cell? ⟨wx0.heap.size, 3, none⟩ = some (.slice (some ⟨p0_3, 0, none⟩) x0.wh.length x0.wh.length) ∧ W.cell? ⟨wx0.heap.size, 4, none⟩ = some (.slice (some ⟨p0_4, 0, none⟩) x0.row.length x0.row.length) ∧ W.cell? ⟨wx0.heap.size, 5, none⟩ = some (.slice (some ⟨p0_5, 0, none⟩) x0.mu.length x0.mu.length) ∧ W.cell? ⟨wx0.heap.size, 6, none⟩ = some (.slice (some ⟨p0_6, 0, none⟩) x0.cs.length x0.cs.length) ∧ W.cell? ⟨wx0.heap.size, 7, none⟩ = some (.bool x0.un))) (by kernel_rfl) ?_ (fun hHeld => ?_)
  · (first | exact CE0.out _ hx | exact CE0.out _ (XS0L.out _ _ hx (Below.refl _ _).drew))
  refine wpAnyH_take (i := 0) (v := ?_) rfl (by kernel_rfl) (by kernel_rfl) (by kernel_rfl) (fun _ _ _ h => h) (Or.inl ⟨by kernel_rfl, ?_⟩) (by assumption) ?_
  rotate_left
  · (intro wS hSw; (try dsimp only at hSw); go_simp <;> with_reducible rfl)
  try simp only [Act.put, tkS]
  refine wpAnyH_take (i := 1) (v := ?_) rfl (by kernel_rfl) (by kernel_rfl) (by kernel_rfl) (fun _ _ _ h => h) (Or.inl ⟨by kernel_rfl, ?_⟩) (by assumption) ?_
  rotate_left
  · (intro wS hSw; (try dsimp only at hSw); go_simp <;> with_reducible rfl)
  try simp only [Act.put, tkS]
  refine wpAnyH_ready (rs := [2]) (by kernel_rfl) (by simp) (AllReadyH.cons rfl (fun K hK => ?_) AllReadyH.nil)
  go_simp
  (go_at_call 8; refine (TO0.out _ (by first | exact XA.out _ hx | exact XA.out _ (XS0L.out _ _ hx (Below.refl _ _).drew))).mono ?_; rintro e we0 ⟨s0_3, s0_4, s0_5, s0_6, rfl, ho, hB, _⟩; have h2 : Below w.heap.size w we0 ∧ we0.heap[w.heap.size]? = some (.cells #[.int .i64 x0.kd, .string ⟨x0.tb.toArray⟩, .string ⟨x0.nm.toArray⟩, .slice a0_3 x0.wh.length c0_3, .slice a0_4 x0.row.length c0_4, .slice a0_5 x0.mu.length c0_5, .slice a0_6 x0.cs.length c0_6, .bool x0.un] 27) ∧ we0.heap[wx0.heap.size]? = some (.cells #[.int .i64 x0.kd, .string ⟨x0.tb.toArray⟩, .string ⟨x0.nm.toArray⟩, .slice (some ⟨p0_3, 0, none⟩) x0.wh.length x0.wh.length, .slice (some ⟨p0_4, 0, none⟩) x0.row.length x0.row.length, .slice (some ⟨p0_5, 0, none⟩) x0.mu.length x0.mu.length, .slice (some ⟨p0_6, 0, none⟩) x0.cs.length x0.cs.length, .bool x0.un] 34) ∧ Rd we0 (fun _ => True) (dCondS x0.wh) (.slice (some ⟨p0_3, 0, none⟩) x0.wh.length x0.wh.length) ∧ Rd we0 (fun _ => True) (dSetS x0.row) (.slice (some ⟨p0_4, 0, none⟩) x0.row.length x0.row.length) ∧ Rd we0 (fun _ => True) (dMutS x0.mu) (.slice (some ⟨p0_5, 0, none⟩) x0.mu.length x0.mu.length) ∧ Rd we0 (fun _ => True) (dStringS x0.cs) (.slice (some ⟨p0_6, 0, none⟩) x0.cs.length x0.cs.length) := (by first | exact XS0L.out _ _ hx hB | exact XS0L.out _ _ (XS0L.out _ _ hx (Below.refl _ _).drew) hB); clear hx; have hx := h2; clear h2; have RE0_3 : Hid (Rd _ (fun _ => True) (dCondS x0.wh) (.slice (some ⟨s0_3, 0, none⟩) x0.wh.length x0.wh.length)) := (Owns.one ho (j := 3) (by omega)).rd'.any; have RE0_4 : Hid (Rd _ (fun _ => True) (dSetS x0.row) (.slice (some ⟨s0_4, 0, none⟩) x0.row.length x0.row.length)) := (Owns.one ho (j := 4) (by omega)).rd'.any; have RE0_5 : Hid (Rd _ (fun _ => True) (dMutS x0.mu) (.slice (some ⟨s0_5, 0, none⟩) x0.mu.length x0.mu.length)) := (Owns.one ho (j := 5) (by omega)).rd'.any; have RE0_6 : Hid (Rd _ (fun _ => True) (dStringS x0.cs) (.slice (some ⟨s0_6, 0, none⟩) x0.cs.length x0.cs.length)) := (Owns.one ho (j := 6) (by omega)).rd'.any; clear hB ho)
  refine hK.out _ _ ?_ (fun hHeld => ?_)
  · (first | exact CE0.out _ hx | exact CE0.out _ (XS0L.out _ _ hx (Below.refl _ _).drew))
  clear hK K
  try simp only [Act.put, tkS]
  refine wpAnyH_ready (rs := [3]) (by kernel_rfl) (by simp) (AllReadyH.cons rfl (fun K hK => ?_) AllReadyH.nil)
  go_simp
  (go_at_call 10; refine (EQ0.out _ _ _ _ _ _ _ _ _ _ _ _ _ _ _ _ _ (by first | exact hx.2.2.2.1 | exact Rd.later hx.2.2.2.1 (Below.refl _ _).drew) (by first | exact hx.2.2.2.2.1 | exact Rd.later hx.2.2.2.2.1 (Below.refl _ _).drew) (by first | exact hx.2.2.2.2.2.1 | exact Rd.later hx.2.2.2.2.2.1 (Below.refl _ _).drew) (by first | exact hx.2.2.2.2.2.2 | exact Rd.later hx.2.2.2.2.2.2 (Below.refl _ _).drew) (by first | exact RE0_3.out | exact Rd.later RE0_3.out (Below.refl _ _).drew) (by first | exact RE0_4.out | exact Rd.later RE0_4.out (Below.refl _ _).drew) (by first | exact RE0_5.out | exact Rd.later RE0_5.out (Below.refl _ _).drew) (by first | exact RE0_6.out | exact Rd.later RE0_6.out (Below.refl _ _).drew)).mono ?_; rintro e wf0 ⟨rfl, hB⟩; have h2 : Below w.heap.size w wf0 ∧ wf0.heap[w.heap.size]? = some (.cells #[.int .i64 x0.kd, .string ⟨x0.tb.toArray⟩, .string ⟨x0.nm.toArray⟩, .slice a0_3 x0.wh.length c0_3, .slice a0_4 x0.row.length c0_4, .slice a0_5 x0.mu.length c0_5, .slice a0_6 x0.cs.length c0_6, .bool x0.un] 27) ∧ wf0.heap[wx0.heap.size]? = some (.cells #[.int .i64 x0.kd, .string ⟨x0.tb.toArray⟩, .string ⟨x0.nm.toArray⟩, .slice (some ⟨p0_3, 0, none⟩) x0.wh.length x0.wh.length, .slice (some ⟨p0_4, 0, none⟩) x0.row.length x0.row.length, .slice (some ⟨p0_5, 0, none⟩) x0.mu.length x0.mu.length, .slice (some ⟨p0_6, 0, none⟩) x0.cs.length x0.cs.length, .bool x0.un] 34) ∧ Rd wf0 (fun _ => True) (dCondS x0.wh) (.slice (some ⟨p0_3, 0, none⟩) x0.wh.length x0.wh.length) ∧ Rd wf0 (fun _ => True) (dSetS x0.row) (.slice (some ⟨p0_4, 0, none⟩) x0.row.length x0.row.length) ∧ Rd wf0 (fun _ => True) (dMutS x0.mu) (.slice (some ⟨p0_5, 0, none⟩) x0.mu.length x0.mu.length) ∧ Rd wf0 (fun _ => True) (dStringS x0.cs) (.slice (some ⟨p0_6, 0, none⟩) x0.cs.length x0.cs.length) := (by first | exact XS0L.out _ _ hx hB | exact XS0L.out _ _ (XS0L.out _ _ hx (Below.refl _ _).drew) hB); clear hx hB; have hx := h2; clear h2)
  refine hK.out _ _ ?_ (fun hHeld => ?_)
  · (first | exact CE0.out _ hx | exact CE0.out _ (XS0L.out _ _ hx (Below.refl _ _).drew))
  clear hK K
  try simp only [Act.put, tkS]
  refine wpAnyH_take (i := 4) (v := ?_) rfl (by kernel_rfl) (by kernel_rfl) (by kernel_rfl) (fun _ _ _ h => h) (Or.inl ⟨by kernel_rfl, ?_⟩) (by assumption) ?_
  rotate_left
  · (intro wS hSw; (try dsimp only at hSw); go_simp <;> with_reducible rfl)
  try simp only [Act.put, tkS]
  refine wpAnyH_done (by kernel_rfl) ?_ _
  clear x0_0 x0_1 x0_2 x0_3 x0_4 x0_5 x0_6 x0_7 y0_0 y0_1 y0_2 y0_3 y0_4 y0_5 y0_6 y0_7 RE0_3 RE0_4 RE0_5 RE0_6
  go_wp2_with fail
  go_ret
  exact ⟨rfl, by first | exact hx.1 | exact hx.1.drew⟩
end Go.Proofs.Ytkjfefjkelckiaa
