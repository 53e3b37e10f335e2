import Derived.Test.YtgiaabgcbpafgaaDStP
import Derived.Test.YtgiaabgcbpafgaaDRwM
import Derived.Test.YtgiaabgcbpafgaaDDrS
import Derived.Test.YtgiaabgcbpafgaaDDrI
import Derived.Test.YtgiaabgcbpafgaaDDrL
import Derived.Deep.RegionHeld3
namespace Go.Proofs.Ytgiaabgcbpafgaa
open Go.RowKit
set_option linter.unusedSimpArgs false
set_option maxRecDepth 100000 in
set_option maxHeartbeats 12800000 in
theorem lawDropRow (x0 : StV) (x1 : Int) (x2 : Int) (a0_0 : Option Addr) (c0_0 : Nat) (w : World) (l0_0 : (dRowSS x0.tables).le maxLen) (l0_1 : iOK x0.next) (l1 : iOK x1) (l2 : iOK x2) (r0_0 : Rd w (· < w.heap.size) (dRowSS x0.tables) (.slice a0_0 x0.tables.length c0_0)) :
    Calls Try.prog 4 #[.agg #[.slice a0_0 x0.tables.length c0_0, .int .i64 x0.next], .int .i64 x1, .int .i64 x2] w fun e w' => e = .returned (.bool true) ∧ Below w.heap.size w w' := by
  have HL0_0 := Lib.hid l0_0
  have HO0 : Hid (∀ j, j < 2 → (dStore x0 j).le maxLen) := fun j hj => by
    rcases (by omega : j = 0 ∨ j = 1) with rfl | rfl
    · exact l0_0
    · exact l0_1
  have RA0_0 : Hid (∀ W, Below w.heap.size w W → Rd W (· < w.heap.size) (dRowSS x0.tables) (.slice a0_0 x0.tables.length c0_0)) := fun W h => Rd.same (fun b hb => h.block b hb) (fun _ h => h) _ _ r0_0
  have HW1 := Lib.hid l1
  have HW2 := Lib.hid l2
  have ALAT : Hid (∀ W W', (Below w.heap.size w W ∧ W.heap[w.heap.size]? = some (.cells #[.slice a0_0 x0.tables.length c0_0, .int .i64 x0.next] 24)) → Below W.heap.size W W' → (Below w.heap.size w W' ∧ W'.heap[w.heap.size]? = some (.cells #[.slice a0_0 x0.tables.length c0_0, .int .i64 x0.next] 24))) := fun W W' h hB => ⟨h.1.trans (hB.mono h.1.size), heap_keptD h.2 hB⟩
  have A0 : Hid (Below w.heap.size w (w.alloc (.cells #[.slice a0_0 x0.tables.length c0_0, .int .i64 x0.next] 24)) ∧ (w.alloc (.cells #[.slice a0_0 x0.tables.length c0_0, .int .i64 x0.next] 24)).heap[w.heap.size]? = some (.cells #[.slice a0_0 x0.tables.length c0_0, .int .i64 x0.next] 24)) := by
    exact ⟨below_allocD _ _, heap_newD _ _⟩
  clear l0_0 r0_0 l1 l2 l0_1
  have x0_0 := cell_at (o := 0) A0.out.2 rfl
  have x0_1 := cell_at (o := 1) A0.out.2 rfl
  go_enter Try.func4, Try.ntmps4
  go_wp2_with fail
  have bl : Hid ((0 : Int) ≤ 1048576 ∧ (1048576 : Int) ≤ 1048576) := by show _ ∧ _; omega
  refine (szDStore x0 a0_0 c0_0 1048576 _ _ bl.out.1 bl.out.2 HO0.out (RA0_0.out _ A0.out.1)).mono ?_
  rintro e ws0 ⟨rfl, hB⟩
  have AS0 := Lib.hid (ALAT.out _ _ A0.out hB)
  clear hB A0 x0_0 x0_1
  have x0_0 := cell_at (o := 0) AS0.out.2 rfl
  have x0_1 := cell_at (o := 1) AS0.out.2 rfl
  by_cases hz0 : (1048576 : Int) - (szT 2 (dStore x0) : Int) < 0
  case pos =>
    rw [less_no hz0]
    go_wp2_with fail
    go_ret
    exact ⟨rfl, AS0.out.1⟩
  rw [less_yes (by omega)]
  obtain ⟨L0, hL0⟩ : ∃ L0 : Int, L0 = 1048576 - (szT 2 (dStore x0) : Int) := ⟨_, rfl⟩
  rw [← hL0]
  have dL0 : decide (L0 < 0) = false := decide_eq_false (by omega)
  have HZ0 : Hid (szT 2 (dStore x0) ≤ 1048576) := by have := bl.out; show _ ≤ _; omega
  have b2 : Hid (0 ≤ L0 ∧ L0 ≤ 1048576) := by have := bl.out; show _ ∧ _; omega
  clear hz0 hL0 bl
  have bl := b2
  clear b2
  go_wp2_with fail
  have HK0 : Hid (∀ j, j < 2 → (dStore x0 j).le 1048576) := fun j hj => D.le_of_sz _ (HO0.out j hj) (Nat.le_trans (sumN_le (g := fun j => (dStore x0 j).sz) hj) HZ0.out)
  have TO0 : Hid (∀ W, (Below w.heap.size w W ∧ W.heap[w.heap.size]? = some (.cells #[.slice a0_0 x0.tables.length c0_0, .int .i64 x0.next] 24)) → Calls Try.prog 8 #[.agg #[.slice a0_0 x0.tables.length c0_0, .int .i64 x0.next]] W fun e w' => ∃ p0 : Nat, e = .returned (.agg #[.slice (some ⟨p0, 0, none⟩) x0.tables.length x0.tables.length, .int .i64 x0.next]) ∧ Owns w' 2 (dStore x0) (vat [.slice (some ⟨p0, 0, none⟩) x0.tables.length x0.tables.length, .int .i64 x0.next]) (fun c => W.heap.size ≤ c ∧ c < w'.heap.size) ∧ Below W.heap.size W w' ∧ (Below w.heap.size w w' ∧ w'.heap[w.heap.size]? = some (.cells #[.slice a0_0 x0.tables.length c0_0, .int .i64 x0.next] 24))) := fun W h => (toDStore x0 a0_0 c0_0 _ W HK0.out (RA0_0.out W h.1)).mono (fun e w' ⟨p0, he, ho, hB⟩ => ⟨p0, he, ho, hB, ALAT.out _ _ h hB⟩)
  obtain ⟨R0, hR0⟩ : ∃ r, r = (dropP x0 x1 x2).2 := ⟨_, rfl⟩
  obtain ⟨R1, hR1⟩ : ∃ r, r = (dropP x0 x1 x2).1 := ⟨_, rfl⟩
  have CS : Hid (∀ (W : World) (b0_0 : Option Addr) (e0_0 : Nat), Rd W (fun _ => True) (dRowSS x0.tables) (.slice b0_0 x0.tables.length e0_0) → Calls Try.prog 16 #[.agg #[.slice b0_0 x0.tables.length e0_0, .int .i64 x0.next], .int .i64 x1, .int .i64 x2] W fun e w' => ∃ (ra : Option Addr) (rc : Nat), e = .returned (.tuple #[.agg #[.slice ra R0.tables.length rc, .int .i64 R0.next], .int .i64 R1]) ∧ Rd w' (· < w'.heap.size) (dRowSS R0.tables) (.slice ra R0.tables.length rc) ∧ Below W.heap.size W w') := fun W b0_0 e0_0 h0_0 => by rw [hR0, hR1]; exact dropRowS x0 x1 x2 b0_0 e0_0 _ W HL0_0.out (HK0.out 0 (by omega)) h0_0
  have CI : Hid (∀ (W : World) (b0_0 : Option Addr) (e0_0 : Nat), Rd W (fun _ => True) (dRowSS x0.tables) (.slice b0_0 x0.tables.length e0_0) → Calls Try.prog 17 #[.agg #[.slice b0_0 x0.tables.length e0_0, .int .i64 x0.next], .int .i64 x1, .int .i64 x2] W fun e w' => ∃ (ra : Option Addr) (rc : Nat), e = .returned (.tuple #[.agg #[.slice ra R0.tables.length rc, .int .i64 R0.next], .int .i64 R1]) ∧ Own w' (dRowSS R0.tables) (fun c => W.heap.size ≤ c ∧ c < w'.heap.size) (.slice ra R0.tables.length rc) ∧ Below W.heap.size W w') := fun W b0_0 e0_0 h0_0 => by rw [hR0, hR1]; exact dropI x0 x1 x2 b0_0 e0_0 _ W HL0_0.out (HK0.out 0 (by omega)) HW2.out h0_0
  have HRB : Hid ((∀ j, j < 2 → (dStore R0 j).le maxLen) ∧ (dRowSS R0.tables).sz ≤ 100000000) := by rw [hR0]; exact drop_le x1 x2 HL0_0.out (HK0.out 1 (by omega)) (by have := HZ0.out; rw [szT_Store] at this; exact this)
  have HRW : Hid (1 + (dRowSS R0.tables).wd < 100000000000) := by have h1 := D.wd_le (dRowSS R0.tables) (HRB.out.1 0 (by omega)); have h2 := HRB.out.2; show _ < _; omega
  have nq1 : (R1 != R1) = false := by simp
  clear hR0 hR1
  have EQ0 : Hid (∀ (W : World) (b0 : Option Addr) (e0 : Nat) (f0 : Option Addr) (g0 : Nat), Rd W (fun _ => True) (dRowSS x0.tables) (.slice b0 x0.tables.length e0) → Rd W (fun _ => True) (dRowSS x0.tables) (.slice f0 x0.tables.length g0) → Calls Try.prog 11 #[.agg #[.slice b0 x0.tables.length e0, .int .i64 x0.next], .agg #[.slice f0 x0.tables.length g0, .int .i64 x0.next]] W fun e w' => e = .returned (.bool true) ∧ Below W.heap.size W w') := fun W b0 e0 f0 g0 h0 i0 => eqDStore x0 b0 e0 f0 g0 _ _ W HO0.out h0 i0
  have HOR := Lib.hid HRB.out.1
  have EQR : Hid (∀ (W : World) (b0 : Option Addr) (e0 : Nat) (f0 : Option Addr) (g0 : Nat), Rd W (fun _ => True) (dRowSS R0.tables) (.slice b0 R0.tables.length e0) → Rd W (fun _ => True) (dRowSS R0.tables) (.slice f0 R0.tables.length g0) → Calls Try.prog 11 #[.agg #[.slice b0 R0.tables.length e0, .int .i64 R0.next], .agg #[.slice f0 R0.tables.length g0, .int .i64 R0.next]] W fun e w' => e = .returned (.bool true) ∧ Below W.heap.size W w') := fun W b0 e0 f0 g0 h0 i0 => eqDStore R0 b0 e0 f0 g0 _ _ W HOR.out h0 i0
  refine (TO0.out _ AS0.out).mono ?_
  rintro e w1 ⟨p0_0, rfl, ho1, hB1, hA1⟩
  have RC0_0 : Hid (Rd _ (fun _ => True) (dRowSS x0.tables) (.slice (some ⟨p0_0, 0, none⟩) x0.tables.length x0.tables.length)) := (Owns.one ho1 (j := 0) (by omega)).rd'.any
  have A1 := Lib.hid hA1
  clear ho1 hB1 hA1 AS0 x0_0 x0_1
  have x0_0 := cell_at (o := 0) A1.out.2 rfl
  have x0_1 := cell_at (o := 1) A1.out.2 rfl
  go_wp2_with fail
  refine (CS.out _ _ _ RC0_0.out).mono ?_
  rintro e w2 ⟨ra, rc, rfl, hr2, hB2⟩
  have A2 := ALAT.out _ _ A1.out hB2
  have S0L : Hid (∀ W W', (Below w.heap.size w W ∧ W.heap[w.heap.size]? = some (.cells #[.slice a0_0 x0.tables.length c0_0, .int .i64 x0.next] 24) ∧ W.heap[w2.heap.size]? = some (.cells #[.slice ra R0.tables.length rc, .int .i64 R0.next] 32) ∧ Rd W (· < w2.heap.size) (dRowSS R0.tables) (.slice ra R0.tables.length rc)) → Below W.heap.size W W' → (Below w.heap.size w W' ∧ W'.heap[w.heap.size]? = some (.cells #[.slice a0_0 x0.tables.length c0_0, .int .i64 x0.next] 24) ∧ W'.heap[w2.heap.size]? = some (.cells #[.slice ra R0.tables.length rc, .int .i64 R0.next] 32) ∧ Rd W' (· < w2.heap.size) (dRowSS R0.tables) (.slice ra R0.tables.length rc))) := fun W W' h hB => ⟨h.1.trans (hB.mono h.1.size), heap_keptD h.2.1 hB, heap_keptD h.2.2.1 hB, h.2.2.2.later hB⟩
  have M0 : Hid (Below w.heap.size w (w2.alloc (.cells #[.slice ra R0.tables.length rc, .int .i64 R0.next] 32)) ∧ (w2.alloc (.cells #[.slice ra R0.tables.length rc, .int .i64 R0.next] 32)).heap[w.heap.size]? = some (.cells #[.slice a0_0 x0.tables.length c0_0, .int .i64 x0.next] 24) ∧ (w2.alloc (.cells #[.slice ra R0.tables.length rc, .int .i64 R0.next] 32)).heap[w2.heap.size]? = some (.cells #[.slice ra R0.tables.length rc, .int .i64 R0.next] 32) ∧ Rd (w2.alloc (.cells #[.slice ra R0.tables.length rc, .int .i64 R0.next] 32)) (· < w2.heap.size) (dRowSS R0.tables) (.slice ra R0.tables.length rc)) := ⟨A2.1.trans ((below_allocD _ _).mono A2.1.size), heap_keptD A2.2 (below_allocD _ _), heap_newD _ _, hr2.later (below_allocD _ _)⟩
  have O0 : Hid (w.heap.size + 1 ≤ w2.heap.size) := by have h := (Array.getElem?_eq_some_iff.1 A2.2).1; show _ ≤ _; omega
  clear A2 hr2 hB2 A1 RC0_0 x0_0 x0_1
  have f_arg0_0 := cell_at (o := 0) M0.out.2.1 rfl
  have f_arg0_1 := cell_at (o := 1) M0.out.2.1 rfl
  have f_w0_0 := cell_at (o := 0) M0.out.2.2.1 rfl
  have f_w0_1 := cell_at (o := 1) M0.out.2.2.1 rfl
  go_wp2_with fail
  refine (TO0.out _ ⟨M0.out.1, M0.out.2.1⟩).mono ?_
  rintro e wx0 ⟨p0_0, rfl, ho, hB, -⟩
  have hm := S0L.out _ _ M0.out hB
  obtain ⟨u0, hu0⟩ : ∃ u, u = (w2.alloc (.cells #[.slice ra R0.tables.length rc, .int .i64 R0.next] 32)).heap.size := ⟨_, rfl⟩
  have U0 : Hid (w2.heap.size + 1 ≤ u0 ∧ u0 ≤ wx0.heap.size) := by refine ⟨by rw [hu0]; simp, by rw [hu0]; exact hB.size⟩
  rw [← hu0] at ho
  have S1L : Hid (∀ W W', (Below w.heap.size w W ∧ W.heap[w.heap.size]? = some (.cells #[.slice a0_0 x0.tables.length c0_0, .int .i64 x0.next] 24) ∧ W.heap[w2.heap.size]? = some (.cells #[.slice ra R0.tables.length rc, .int .i64 R0.next] 32) ∧ Rd W (· < w2.heap.size) (dRowSS R0.tables) (.slice ra R0.tables.length rc) ∧ W.heap[wx0.heap.size]? = some (.cells #[.slice (some ⟨p0_0, 0, none⟩) x0.tables.length x0.tables.length, .int .i64 x0.next] 32) ∧ Own W (dRowSS x0.tables) (fun c => u0 ≤ c ∧ c < wx0.heap.size) (.slice (some ⟨p0_0, 0, none⟩) x0.tables.length x0.tables.length)) → Below W.heap.size W W' → (Below w.heap.size w W' ∧ W'.heap[w.heap.size]? = some (.cells #[.slice a0_0 x0.tables.length c0_0, .int .i64 x0.next] 24) ∧ W'.heap[w2.heap.size]? = some (.cells #[.slice ra R0.tables.length rc, .int .i64 R0.next] 32) ∧ Rd W' (· < w2.heap.size) (dRowSS R0.tables) (.slice ra R0.tables.length rc) ∧ W'.heap[wx0.heap.size]? = some (.cells #[.slice (some ⟨p0_0, 0, none⟩) x0.tables.length x0.tables.length, .int .i64 x0.next] 32) ∧ Own W' (dRowSS x0.tables) (fun c => u0 ≤ c ∧ c < wx0.heap.size) (.slice (some ⟨p0_0, 0, none⟩) x0.tables.length x0.tables.length))) := fun W W' h hB => ⟨h.1.trans (hB.mono h.1.size), heap_keptD h.2.1 hB, heap_keptD h.2.2.1 hB, h.2.2.2.1.later hB, heap_keptD h.2.2.2.2.1 hB, h.2.2.2.2.2.later hB⟩
  have M1 : Hid (Below w.heap.size w (wx0.alloc (.cells #[.slice (some ⟨p0_0, 0, none⟩) x0.tables.length x0.tables.length, .int .i64 x0.next] 32)) ∧ (wx0.alloc (.cells #[.slice (some ⟨p0_0, 0, none⟩) x0.tables.length x0.tables.length, .int .i64 x0.next] 32)).heap[w.heap.size]? = some (.cells #[.slice a0_0 x0.tables.length c0_0, .int .i64 x0.next] 24) ∧ (wx0.alloc (.cells #[.slice (some ⟨p0_0, 0, none⟩) x0.tables.length x0.tables.length, .int .i64 x0.next] 32)).heap[w2.heap.size]? = some (.cells #[.slice ra R0.tables.length rc, .int .i64 R0.next] 32) ∧ Rd (wx0.alloc (.cells #[.slice (some ⟨p0_0, 0, none⟩) x0.tables.length x0.tables.length, .int .i64 x0.next] 32)) (· < w2.heap.size) (dRowSS R0.tables) (.slice ra R0.tables.length rc) ∧ (wx0.alloc (.cells #[.slice (some ⟨p0_0, 0, none⟩) x0.tables.length x0.tables.length, .int .i64 x0.next] 32)).heap[wx0.heap.size]? = some (.cells #[.slice (some ⟨p0_0, 0, none⟩) x0.tables.length x0.tables.length, .int .i64 x0.next] 32) ∧ Own (wx0.alloc (.cells #[.slice (some ⟨p0_0, 0, none⟩) x0.tables.length x0.tables.length, .int .i64 x0.next] 32)) (dRowSS x0.tables) (fun c => u0 ≤ c ∧ c < wx0.heap.size) (.slice (some ⟨p0_0, 0, none⟩) x0.tables.length x0.tables.length)) := ⟨hm.1.trans ((below_allocD _ _).mono hm.1.size), heap_keptD hm.2.1 (below_allocD _ _), heap_keptD hm.2.2.1 (below_allocD _ _), hm.2.2.2.later (below_allocD _ _), heap_newD _ _, (Owns.one ho (j := 0) (by omega)).later (below_allocD _ _)⟩
  clear f_arg0_0 f_arg0_1 f_w0_0 f_w0_1
  clear hm hB ho hu0 M0
  have f_arg0_0 := cell_at (o := 0) M1.out.2.1 rfl
  have f_arg0_1 := cell_at (o := 1) M1.out.2.1 rfl
  have f_w0_0 := cell_at (o := 0) M1.out.2.2.1 rfl
  have f_w0_1 := cell_at (o := 1) M1.out.2.2.1 rfl
  have f_x0_0 := cell_at (o := 0) M1.out.2.2.2.2.1 rfl
  have f_x0_1 := cell_at (o := 1) M1.out.2.2.2.2.1 rfl
  go_wp2_with fail
  refine (CI.out _ _ _ (Rd.any (Own.rd' (M1.out.2.2.2.2.2)))).mono ?_
  rintro e wg ⟨ga, gc, rfl, ho, hB⟩
  have hm := S1L.out _ _ M1.out hB
  obtain ⟨ug, hug⟩ : ∃ u, u = (wx0.alloc (.cells #[.slice (some ⟨p0_0, 0, none⟩) x0.tables.length x0.tables.length, .int .i64 x0.next] 32)).heap.size := ⟨_, rfl⟩
  have UG : Hid (wx0.heap.size + 1 ≤ ug ∧ ug ≤ wg.heap.size) := by refine ⟨by rw [hug]; simp, by rw [hug]; exact hB.size⟩
  rw [← hug] at ho
  have SGL : Hid (∀ W W', (Below w.heap.size w W ∧ W.heap[w.heap.size]? = some (.cells #[.slice a0_0 x0.tables.length c0_0, .int .i64 x0.next] 24) ∧ W.heap[w2.heap.size]? = some (.cells #[.slice ra R0.tables.length rc, .int .i64 R0.next] 32) ∧ Rd W (· < w2.heap.size) (dRowSS R0.tables) (.slice ra R0.tables.length rc) ∧ W.heap[wx0.heap.size]? = some (.cells #[.slice (some ⟨p0_0, 0, none⟩) x0.tables.length x0.tables.length, .int .i64 x0.next] 32) ∧ Own W (dRowSS x0.tables) (fun c => u0 ≤ c ∧ c < wx0.heap.size) (.slice (some ⟨p0_0, 0, none⟩) x0.tables.length x0.tables.length) ∧ W.heap[wg.heap.size]? = some (.cells #[.slice ga R0.tables.length gc, .int .i64 R0.next] 32) ∧ Own W (dRowSS R0.tables) (fun c => ug ≤ c ∧ c < wg.heap.size) (.slice ga R0.tables.length gc)) → Below W.heap.size W W' → (Below w.heap.size w W' ∧ W'.heap[w.heap.size]? = some (.cells #[.slice a0_0 x0.tables.length c0_0, .int .i64 x0.next] 24) ∧ W'.heap[w2.heap.size]? = some (.cells #[.slice ra R0.tables.length rc, .int .i64 R0.next] 32) ∧ Rd W' (· < w2.heap.size) (dRowSS R0.tables) (.slice ra R0.tables.length rc) ∧ W'.heap[wx0.heap.size]? = some (.cells #[.slice (some ⟨p0_0, 0, none⟩) x0.tables.length x0.tables.length, .int .i64 x0.next] 32) ∧ Own W' (dRowSS x0.tables) (fun c => u0 ≤ c ∧ c < wx0.heap.size) (.slice (some ⟨p0_0, 0, none⟩) x0.tables.length x0.tables.length) ∧ W'.heap[wg.heap.size]? = some (.cells #[.slice ga R0.tables.length gc, .int .i64 R0.next] 32) ∧ Own W' (dRowSS R0.tables) (fun c => ug ≤ c ∧ c < wg.heap.size) (.slice ga R0.tables.length gc))) := fun W W' h hB => ⟨h.1.trans (hB.mono h.1.size), heap_keptD h.2.1 hB, heap_keptD h.2.2.1 hB, h.2.2.2.1.later hB, heap_keptD h.2.2.2.2.1 hB, h.2.2.2.2.2.1.later hB, heap_keptD h.2.2.2.2.2.2.1 hB, h.2.2.2.2.2.2.2.later hB⟩
  have MG : Hid (Below w.heap.size w (wg.alloc (.cells #[.slice ga R0.tables.length gc, .int .i64 R0.next] 32)) ∧ (wg.alloc (.cells #[.slice ga R0.tables.length gc, .int .i64 R0.next] 32)).heap[w.heap.size]? = some (.cells #[.slice a0_0 x0.tables.length c0_0, .int .i64 x0.next] 24) ∧ (wg.alloc (.cells #[.slice ga R0.tables.length gc, .int .i64 R0.next] 32)).heap[w2.heap.size]? = some (.cells #[.slice ra R0.tables.length rc, .int .i64 R0.next] 32) ∧ Rd (wg.alloc (.cells #[.slice ga R0.tables.length gc, .int .i64 R0.next] 32)) (· < w2.heap.size) (dRowSS R0.tables) (.slice ra R0.tables.length rc) ∧ (wg.alloc (.cells #[.slice ga R0.tables.length gc, .int .i64 R0.next] 32)).heap[wx0.heap.size]? = some (.cells #[.slice (some ⟨p0_0, 0, none⟩) x0.tables.length x0.tables.length, .int .i64 x0.next] 32) ∧ Own (wg.alloc (.cells #[.slice ga R0.tables.length gc, .int .i64 R0.next] 32)) (dRowSS x0.tables) (fun c => u0 ≤ c ∧ c < wx0.heap.size) (.slice (some ⟨p0_0, 0, none⟩) x0.tables.length x0.tables.length) ∧ (wg.alloc (.cells #[.slice ga R0.tables.length gc, .int .i64 R0.next] 32)).heap[wg.heap.size]? = some (.cells #[.slice ga R0.tables.length gc, .int .i64 R0.next] 32) ∧ Own (wg.alloc (.cells #[.slice ga R0.tables.length gc, .int .i64 R0.next] 32)) (dRowSS R0.tables) (fun c => ug ≤ c ∧ c < wg.heap.size) (.slice ga R0.tables.length gc)) := ⟨hm.1.trans ((below_allocD _ _).mono hm.1.size), heap_keptD hm.2.1 (below_allocD _ _), heap_keptD hm.2.2.1 (below_allocD _ _), hm.2.2.2.1.later (below_allocD _ _), heap_keptD hm.2.2.2.2.1 (below_allocD _ _), hm.2.2.2.2.2.later (below_allocD _ _), heap_newD _ _, ho.later (below_allocD _ _)⟩
  clear f_arg0_0 f_arg0_1 f_w0_0 f_w0_1 f_x0_0 f_x0_1
  clear hm hB ho hug M1
  have ORD := Lib.hid (And.intro (O0.out) (And.intro (U0.out) (UG.out)))
  have f_arg0_0 := cell_at (o := 0) MG.out.2.1 rfl
  have f_arg0_1 := cell_at (o := 1) MG.out.2.1 rfl
  have f_w0_0 := cell_at (o := 0) MG.out.2.2.1 rfl
  have f_w0_1 := cell_at (o := 1) MG.out.2.2.1 rfl
  have f_x0_0 := cell_at (o := 0) MG.out.2.2.2.2.1 rfl
  have f_x0_1 := cell_at (o := 1) MG.out.2.2.2.2.1 rfl
  have f_g_0 := cell_at (o := 0) MG.out.2.2.2.2.2.2.1 rfl
  have f_g_1 := cell_at (o := 1) MG.out.2.2.2.2.2.2.1 rfl
  go_wp2_with fail
  refine (EQR.out _ _ _ _ _ (Rd.any (Own.rd' (MG.out.2.2.2.2.2.2.2))) (Rd.any (MG.out.2.2.2.1))).mono ?_
  rintro e wc0 ⟨rfl, hB⟩
  have N1 := Lib.hid (SGL.out _ _ MG.out hB)
  clear f_arg0_0 f_arg0_1 f_w0_0 f_w0_1 f_x0_0 f_x0_1 f_g_0 f_g_1
  clear hB MG
  have f_arg0_0 := cell_at (o := 0) N1.out.2.1 rfl
  have f_arg0_1 := cell_at (o := 1) N1.out.2.1 rfl
  have f_w0_0 := cell_at (o := 0) N1.out.2.2.1 rfl
  have f_w0_1 := cell_at (o := 1) N1.out.2.2.1 rfl
  have f_x0_0 := cell_at (o := 0) N1.out.2.2.2.2.1 rfl
  have f_x0_1 := cell_at (o := 1) N1.out.2.2.2.2.1 rfl
  have f_g_0 := cell_at (o := 0) N1.out.2.2.2.2.2.2.1 rfl
  have f_g_1 := cell_at (o := 1) N1.out.2.2.2.2.2.2.1 rfl
  go_wp2_with fail
  have CE0 : Hid (∀ W, (Below w.heap.size w W ∧ W.heap[w.heap.size]? = some (.cells #[.slice a0_0 x0.tables.length c0_0, .int .i64 x0.next] 24) ∧ W.heap[w2.heap.size]? = some (.cells #[.slice ra R0.tables.length rc, .int .i64 R0.next] 32) ∧ Rd W (· < w2.heap.size) (dRowSS R0.tables) (.slice ra R0.tables.length rc) ∧ W.heap[wx0.heap.size]? = some (.cells #[.slice (some ⟨p0_0, 0, none⟩) x0.tables.length x0.tables.length, .int .i64 x0.next] 32) ∧ Own W (dRowSS x0.tables) (fun c => u0 ≤ c ∧ c < wx0.heap.size) (.slice (some ⟨p0_0, 0, none⟩) x0.tables.length x0.tables.length) ∧ W.heap[wg.heap.size]? = some (.cells #[.slice ga R0.tables.length gc, .int .i64 R0.next] 32) ∧ Own W (dRowSS R0.tables) (fun c => ug ≤ c ∧ c < wg.heap.size) (.slice ga R0.tables.length gc)) → (W.cell? ⟨w.heap.size, 0, none⟩ = some (.slice a0_0 x0.tables.length c0_0) ∧ W.cell? ⟨w.heap.size, 1, none⟩ = some (.int .i64 x0.next) ∧ W.cell? ⟨wx0.heap.size, 0, none⟩ = some (.slice (some ⟨p0_0, 0, none⟩) x0.tables.length x0.tables.length) ∧ W.cell? ⟨wx0.heap.size, 1, none⟩ = some (.int .i64 x0.next))) := fun W h => ⟨cell_at (o := 0) h.2.1 rfl, cell_at (o := 1) h.2.1 rfl, cell_at (o := 0) h.2.2.2.2.1 rfl, cell_at (o := 1) h.2.2.2.2.1 rfl⟩
  have XA0 : Hid (∀ W, (Below w.heap.size w W ∧ W.heap[w.heap.size]? = some (.cells #[.slice a0_0 x0.tables.length c0_0, .int .i64 x0.next] 24) ∧ W.heap[w2.heap.size]? = some (.cells #[.slice ra R0.tables.length rc, .int .i64 R0.next] 32) ∧ Rd W (· < w2.heap.size) (dRowSS R0.tables) (.slice ra R0.tables.length rc) ∧ W.heap[wx0.heap.size]? = some (.cells #[.slice (some ⟨p0_0, 0, none⟩) x0.tables.length x0.tables.length, .int .i64 x0.next] 32) ∧ Own W (dRowSS x0.tables) (fun c => u0 ≤ c ∧ c < wx0.heap.size) (.slice (some ⟨p0_0, 0, none⟩) x0.tables.length x0.tables.length) ∧ W.heap[wg.heap.size]? = some (.cells #[.slice ga R0.tables.length gc, .int .i64 R0.next] 32) ∧ Own W (dRowSS R0.tables) (fun c => ug ≤ c ∧ c < wg.heap.size) (.slice ga R0.tables.length gc)) → (Below w.heap.size w W ∧ W.heap[w.heap.size]? = some (.cells #[.slice a0_0 x0.tables.length c0_0, .int .i64 x0.next] 24))) := fun W h => ⟨h.1, h.2.1⟩
  have hx := N1.out
  clear N1
  refine wp_region_held_drew (S := (fun W => W.cell? ⟨w.heap.size, 0, none⟩ = some (.slice a0_0 x0.tables.length c0_0) ∧ W.cell? ⟨w.heap.size, 1, none⟩ = some (.int .i64 x0.next) ∧ W.cell? ⟨wx0.heap.size, 0, none⟩ = some (.slice (some ⟨p0_0, 0, none⟩) x0.tables.length x0.tables.length) ∧ W.cell? ⟨wx0.heap.size, 1, none⟩ = some (.int .i64 x0.next))) (by kernel_rfl) ?_ (fun hHeld => ?_)
  · (first | exact CE0.out _ hx | exact CE0.out _ (SGL.out _ _ hx (Below.refl _ _).drew))
  refine wpAnyH_take (i := 0) (v := ?_) rfl (by kernel_rfl) (by kernel_rfl) (by kernel_rfl) (fun _ _ _ h => h) (Or.inl ⟨by kernel_rfl, ?_⟩) (by assumption) ?_
  rotate_left
  · (intro wS hSw; (try dsimp only at hSw); go_simp <;> with_reducible rfl)
  try simp only [Act.put, List.getElem_toArray, List.getElem_cons_succ, List.getElem_cons_zero, List.setIfInBounds_toArray, List.set_cons_zero, List.set_cons_succ]
  refine wpAnyH_take (i := 1) (v := ?_) rfl (by kernel_rfl) (by kernel_rfl) (by kernel_rfl) (fun _ _ _ h => h) (Or.inl ⟨by kernel_rfl, ?_⟩) (by assumption) ?_
  rotate_left
  · (intro wS hSw; (try dsimp only at hSw); go_simp <;> with_reducible rfl)
  try simp only [Act.put, List.getElem_toArray, List.getElem_cons_succ, List.getElem_cons_zero, List.setIfInBounds_toArray, List.set_cons_zero, List.set_cons_succ]
  refine wpAnyH_ready (rs := [2]) (by kernel_rfl) (by simp) (AllReadyH.cons rfl (fun K hK => ?_) AllReadyH.nil)
  go_simp
  (go_at_call 8; refine (TO0.out _ (by first | exact XA0.out _ hx | exact XA0.out _ (SGL.out _ _ hx (Below.refl _ _).drew))).mono ?_; rintro e we0 ⟨s0_0, rfl, ho, hB, _⟩; have h2 : Below w.heap.size w we0 ∧ we0.heap[w.heap.size]? = some (.cells #[.slice a0_0 x0.tables.length c0_0, .int .i64 x0.next] 24) ∧ we0.heap[w2.heap.size]? = some (.cells #[.slice ra R0.tables.length rc, .int .i64 R0.next] 32) ∧ Rd we0 (· < w2.heap.size) (dRowSS R0.tables) (.slice ra R0.tables.length rc) ∧ we0.heap[wx0.heap.size]? = some (.cells #[.slice (some ⟨p0_0, 0, none⟩) x0.tables.length x0.tables.length, .int .i64 x0.next] 32) ∧ Own we0 (dRowSS x0.tables) (fun c => u0 ≤ c ∧ c < wx0.heap.size) (.slice (some ⟨p0_0, 0, none⟩) x0.tables.length x0.tables.length) ∧ we0.heap[wg.heap.size]? = some (.cells #[.slice ga R0.tables.length gc, .int .i64 R0.next] 32) ∧ Own we0 (dRowSS R0.tables) (fun c => ug ≤ c ∧ c < wg.heap.size) (.slice ga R0.tables.length gc) := (by first | exact SGL.out _ _ hx hB | exact SGL.out _ _ (SGL.out _ _ hx (Below.refl _ _).drew) hB); clear hx; have hx := h2; clear h2; have RE0_0 : Hid (Rd _ (fun _ => True) (dRowSS x0.tables) (.slice (some ⟨s0_0, 0, none⟩) x0.tables.length x0.tables.length)) := (Owns.one ho (j := 0) (by omega)).rd'.any; clear hB ho)
  refine hK.out _ _ ?_ (fun hHeld => ?_)
  · (first | exact CE0.out _ hx | exact CE0.out _ (SGL.out _ _ hx (Below.refl _ _).drew))
  clear hK K
  try simp only [Act.put, List.getElem_toArray, List.getElem_cons_succ, List.getElem_cons_zero, List.setIfInBounds_toArray, List.set_cons_zero, List.set_cons_succ]
  refine wpAnyH_ready (rs := [3]) (by kernel_rfl) (by simp) (AllReadyH.cons rfl (fun K hK => ?_) AllReadyH.nil)
  go_simp
  (go_at_call 11; refine (EQ0.out _ _ _ _ _ (by first | exact Rd.any (Own.rd' (hx.2.2.2.2.2.1)) | exact Rd.later (Rd.any (Own.rd' (hx.2.2.2.2.2.1))) (Below.refl _ _).drew) (by first | exact RE0_0.out | exact Rd.later RE0_0.out (Below.refl _ _).drew)).mono ?_; rintro e wf0 ⟨rfl, hB⟩; have h2 : Below w.heap.size w wf0 ∧ wf0.heap[w.heap.size]? = some (.cells #[.slice a0_0 x0.tables.length c0_0, .int .i64 x0.next] 24) ∧ wf0.heap[w2.heap.size]? = some (.cells #[.slice ra R0.tables.length rc, .int .i64 R0.next] 32) ∧ Rd wf0 (· < w2.heap.size) (dRowSS R0.tables) (.slice ra R0.tables.length rc) ∧ wf0.heap[wx0.heap.size]? = some (.cells #[.slice (some ⟨p0_0, 0, none⟩) x0.tables.length x0.tables.length, .int .i64 x0.next] 32) ∧ Own wf0 (dRowSS x0.tables) (fun c => u0 ≤ c ∧ c < wx0.heap.size) (.slice (some ⟨p0_0, 0, none⟩) x0.tables.length x0.tables.length) ∧ wf0.heap[wg.heap.size]? = some (.cells #[.slice ga R0.tables.length gc, .int .i64 R0.next] 32) ∧ Own wf0 (dRowSS R0.tables) (fun c => ug ≤ c ∧ c < wg.heap.size) (.slice ga R0.tables.length gc) := (by first | exact SGL.out _ _ hx hB | exact SGL.out _ _ (SGL.out _ _ hx (Below.refl _ _).drew) hB); clear hx hB; have hx := h2; clear h2)
  refine hK.out _ _ ?_ (fun hHeld => ?_)
  · (first | exact CE0.out _ hx | exact CE0.out _ (SGL.out _ _ hx (Below.refl _ _).drew))
  clear hK K
  try simp only [Act.put, List.getElem_toArray, List.getElem_cons_succ, List.getElem_cons_zero, List.setIfInBounds_toArray, List.set_cons_zero, List.set_cons_succ]
  refine wpAnyH_take (i := 4) (v := ?_) rfl (by kernel_rfl) (by kernel_rfl) (by kernel_rfl) (fun _ _ _ h => h) (Or.inl ⟨by kernel_rfl, ?_⟩) (by assumption) ?_
  rotate_left
  · (intro wS hSw; (try dsimp only at hSw); go_simp <;> with_reducible rfl)
  try simp only [Act.put, List.getElem_toArray, List.getElem_cons_succ, List.getElem_cons_zero, List.setIfInBounds_toArray, List.set_cons_zero, List.set_cons_succ]
  refine wpAnyH_done (by kernel_rfl) ?_ _
  have N2 := Lib.hid hx
  clear f_arg0_0 f_arg0_1 f_w0_0 f_w0_1 f_x0_0 f_x0_1 f_g_0 f_g_1
  clear hx RE0_0
  have f_arg0_0 := cell_at (o := 0) N2.out.2.1 rfl
  have f_arg0_1 := cell_at (o := 1) N2.out.2.1 rfl
  have f_w0_0 := cell_at (o := 0) N2.out.2.2.1 rfl
  have f_w0_1 := cell_at (o := 1) N2.out.2.2.1 rfl
  have f_x0_0 := cell_at (o := 0) N2.out.2.2.2.2.1 rfl
  have f_x0_1 := cell_at (o := 1) N2.out.2.2.2.2.1 rfl
  have f_g_0 := cell_at (o := 0) N2.out.2.2.2.2.2.2.1 rfl
  have f_g_1 := cell_at (o := 1) N2.out.2.2.2.2.2.2.1 rfl
  go_wp2_with fail
  have MB : Hid True := trivial
  have T0F : Hid (∀ W W', (Below w.heap.size w W ∧ W.heap[w.heap.size]? = some (.cells #[.slice a0_0 x0.tables.length c0_0, .int .i64 x0.next] 24) ∧ W.heap[w2.heap.size]? = some (.cells #[.slice ra R0.tables.length rc, .int .i64 R0.next] 32) ∧ Rd W (· < w2.heap.size) (dRowSS R0.tables) (.slice ra R0.tables.length rc) ∧ W.heap[wx0.heap.size]? = some (.cells #[.slice (some ⟨p0_0, 0, none⟩) x0.tables.length x0.tables.length, .int .i64 x0.next] 32) ∧ Own W (dRowSS x0.tables) (fun c => u0 ≤ c ∧ c < wx0.heap.size) (.slice (some ⟨p0_0, 0, none⟩) x0.tables.length x0.tables.length) ∧ W.heap[wg.heap.size]? = some (.cells #[.slice ga R0.tables.length gc, .int .i64 R0.next] 32) ∧ Own W (dRowSS R0.tables) (fun c => ug ≤ c ∧ c < wg.heap.size) (.slice ga R0.tables.length gc)) → Frm (fun c => u0 ≤ c ∧ c < wx0.heap.size) W W' → (Own W' ((dRowSS x0.tables).mkd (1)) (fun c => u0 ≤ c ∧ c < wx0.heap.size) (.slice (some ⟨p0_0, 0, none⟩) x0.tables.length x0.tables.length)) → (Below w.heap.size w W' ∧ W'.heap[w.heap.size]? = some (.cells #[.slice a0_0 x0.tables.length c0_0, .int .i64 x0.next] 24) ∧ W'.heap[w2.heap.size]? = some (.cells #[.slice ra R0.tables.length rc, .int .i64 R0.next] 32) ∧ Rd W' (· < w2.heap.size) (dRowSS R0.tables) (.slice ra R0.tables.length rc) ∧ W'.heap[wx0.heap.size]? = some (.cells #[.slice (some ⟨p0_0, 0, none⟩) x0.tables.length x0.tables.length, .int .i64 x0.next] 32) ∧ Own W' ((dRowSS x0.tables).mkd (1)) (fun c => u0 ≤ c ∧ c < wx0.heap.size) (.slice (some ⟨p0_0, 0, none⟩) x0.tables.length x0.tables.length) ∧ W'.heap[wg.heap.size]? = some (.cells #[.slice ga R0.tables.length gc, .int .i64 R0.next] 32) ∧ Own W' (dRowSS R0.tables) (fun c => ug ≤ c ∧ c < wg.heap.size) (.slice ga R0.tables.length gc))) := fun W W' h hF ho0 => ⟨h.1.trans (Frm.below hF h.1.size (fun b hb hx => by have h1 := (fun (b : Nat) (hb : u0 ≤ b ∧ b < wx0.heap.size) => hb) b hx; have h2 := ORD.out; omega)), (hF.block _ (Array.getElem?_eq_some_iff.1 h.2.1).1 (fun hx => by have h1 := (fun (b : Nat) (hb : u0 ≤ b ∧ b < wx0.heap.size) => hb) _ hx; have h2 := ORD.out; omega)).trans h.2.1, (hF.block _ (Array.getElem?_eq_some_iff.1 h.2.2.1).1 (fun hx => by have h1 := (fun (b : Nat) (hb : u0 ≤ b ∧ b < wx0.heap.size) => hb) _ hx; have h2 := ORD.out; omega)).trans h.2.2.1, h.2.2.2.1.frm hF (fun b hb hx => by have h1 := (fun (b : Nat) (hb : u0 ≤ b ∧ b < wx0.heap.size) => hb) b hx; have h2 := ORD.out; have h3 : b < w2.heap.size := hb; omega), (hF.block _ (Array.getElem?_eq_some_iff.1 h.2.2.2.2.1).1 (fun hx => by have h1 := (fun (b : Nat) (hb : u0 ≤ b ∧ b < wx0.heap.size) => hb) _ hx; have h2 := ORD.out; omega)).trans h.2.2.2.2.1, ho0, (hF.block _ (Array.getElem?_eq_some_iff.1 h.2.2.2.2.2.2.1).1 (fun hx => by have h1 := (fun (b : Nat) (hb : u0 ≤ b ∧ b < wx0.heap.size) => hb) _ hx; have h2 := ORD.out; omega)).trans h.2.2.2.2.2.2.1, h.2.2.2.2.2.2.2.frm hF (fun b hb hx => by have h1 := (fun (b : Nat) (hb : u0 ≤ b ∧ b < wx0.heap.size) => hb) b hx; have h2 := ORD.out; have h3 := (fun (b : Nat) (hb : ug ≤ b ∧ b < wg.heap.size) => hb) b hb; omega)⟩
  refine (mkDStore x0 (some ⟨p0_0, 0, none⟩) x0.tables.length (1) (fun c => u0 ≤ c ∧ c < wx0.heap.size) _ (HO0.out 0 (by omega)) (by omega) (by have g0 := D.wd_le (dRowSS x0.tables) (HO0.out 0 (by omega)); have gz := HZ0.out; rw [szT_Store] at gz; omega) (N2.out.2.2.2.2.2.1)).mono ?_
  rintro e wm0 ⟨rfl, ho, hF⟩
  have N3 := Lib.hid (T0F.out _ _ N2.out hF ho)
  clear f_arg0_0 f_arg0_1 f_w0_0 f_w0_1 f_x0_0 f_x0_1 f_g_0 f_g_1
  clear ho hF N2
  have T0L : Hid (∀ W W', (Below w.heap.size w W ∧ W.heap[w.heap.size]? = some (.cells #[.slice a0_0 x0.tables.length c0_0, .int .i64 x0.next] 24) ∧ W.heap[w2.heap.size]? = some (.cells #[.slice ra R0.tables.length rc, .int .i64 R0.next] 32) ∧ Rd W (· < w2.heap.size) (dRowSS R0.tables) (.slice ra R0.tables.length rc) ∧ W.heap[wx0.heap.size]? = some (.cells #[.slice (some ⟨p0_0, 0, none⟩) x0.tables.length x0.tables.length, .int .i64 x0.next] 32) ∧ Own W ((dRowSS x0.tables).mkd (1)) (fun c => u0 ≤ c ∧ c < wx0.heap.size) (.slice (some ⟨p0_0, 0, none⟩) x0.tables.length x0.tables.length) ∧ W.heap[wg.heap.size]? = some (.cells #[.slice ga R0.tables.length gc, .int .i64 R0.next] 32) ∧ Own W (dRowSS R0.tables) (fun c => ug ≤ c ∧ c < wg.heap.size) (.slice ga R0.tables.length gc)) → Below W.heap.size W W' → (Below w.heap.size w W' ∧ W'.heap[w.heap.size]? = some (.cells #[.slice a0_0 x0.tables.length c0_0, .int .i64 x0.next] 24) ∧ W'.heap[w2.heap.size]? = some (.cells #[.slice ra R0.tables.length rc, .int .i64 R0.next] 32) ∧ Rd W' (· < w2.heap.size) (dRowSS R0.tables) (.slice ra R0.tables.length rc) ∧ W'.heap[wx0.heap.size]? = some (.cells #[.slice (some ⟨p0_0, 0, none⟩) x0.tables.length x0.tables.length, .int .i64 x0.next] 32) ∧ Own W' ((dRowSS x0.tables).mkd (1)) (fun c => u0 ≤ c ∧ c < wx0.heap.size) (.slice (some ⟨p0_0, 0, none⟩) x0.tables.length x0.tables.length) ∧ W'.heap[wg.heap.size]? = some (.cells #[.slice ga R0.tables.length gc, .int .i64 R0.next] 32) ∧ Own W' (dRowSS R0.tables) (fun c => ug ≤ c ∧ c < wg.heap.size) (.slice ga R0.tables.length gc))) := fun W W' h hB => ⟨h.1.trans (hB.mono h.1.size), heap_keptD h.2.1 hB, heap_keptD h.2.2.1 hB, h.2.2.2.1.later hB, heap_keptD h.2.2.2.2.1 hB, h.2.2.2.2.2.1.later hB, heap_keptD h.2.2.2.2.2.2.1 hB, h.2.2.2.2.2.2.2.later hB⟩
  obtain ⟨k0, hk0⟩ : ∃ y : Nat, y = 1 + (dRowSS x0.tables).wd := ⟨_, rfl⟩
  rw [← hk0]
  have hkb0 : Hid (k0 < 100000000000 ∧ 0 < k0) := by rw [hk0]; have g0 := D.wd_le (dRowSS x0.tables) (HO0.out 0 (by omega)); have gz := HZ0.out; rw [szT_Store] at gz; show _ ∧ _; omega
  have dk0 : decide ((k0 : Int) < 0) = false := by simp
  clear hk0
  have f_arg0_0 := cell_at (o := 0) N3.out.2.1 rfl
  have f_arg0_1 := cell_at (o := 1) N3.out.2.1 rfl
  have f_w0_0 := cell_at (o := 0) N3.out.2.2.1 rfl
  have f_w0_1 := cell_at (o := 1) N3.out.2.2.1 rfl
  have f_x0_0 := cell_at (o := 0) N3.out.2.2.2.2.1 rfl
  have f_x0_1 := cell_at (o := 1) N3.out.2.2.2.2.1 rfl
  have f_g_0 := cell_at (o := 0) N3.out.2.2.2.2.2.2.1 rfl
  have f_g_1 := cell_at (o := 1) N3.out.2.2.2.2.2.2.1 rfl
  go_wp2_with fail
  refine (EQR.out _ _ _ _ _ (Rd.any (Own.rd' (N3.out.2.2.2.2.2.2.2))) (Rd.any (N3.out.2.2.2.1))).mono ?_
  rintro e wc3 ⟨rfl, hB⟩
  have N4 := Lib.hid (T0L.out _ _ N3.out hB)
  clear f_arg0_0 f_arg0_1 f_w0_0 f_w0_1 f_x0_0 f_x0_1 f_g_0 f_g_1
  clear hB N3
  have f_arg0_0 := cell_at (o := 0) N4.out.2.1 rfl
  have f_arg0_1 := cell_at (o := 1) N4.out.2.1 rfl
  have f_w0_0 := cell_at (o := 0) N4.out.2.2.1 rfl
  have f_w0_1 := cell_at (o := 1) N4.out.2.2.1 rfl
  have f_x0_0 := cell_at (o := 0) N4.out.2.2.2.2.1 rfl
  have f_x0_1 := cell_at (o := 1) N4.out.2.2.2.2.1 rfl
  have f_g_0 := cell_at (o := 0) N4.out.2.2.2.2.2.2.1 rfl
  have f_g_1 := cell_at (o := 1) N4.out.2.2.2.2.2.2.1 rfl
  go_wp2_with fail
  have TGF : Hid (∀ W W', (Below w.heap.size w W ∧ W.heap[w.heap.size]? = some (.cells #[.slice a0_0 x0.tables.length c0_0, .int .i64 x0.next] 24) ∧ W.heap[w2.heap.size]? = some (.cells #[.slice ra R0.tables.length rc, .int .i64 R0.next] 32) ∧ Rd W (· < w2.heap.size) (dRowSS R0.tables) (.slice ra R0.tables.length rc) ∧ W.heap[wx0.heap.size]? = some (.cells #[.slice (some ⟨p0_0, 0, none⟩) x0.tables.length x0.tables.length, .int .i64 x0.next] 32) ∧ Own W ((dRowSS x0.tables).mkd (1)) (fun c => u0 ≤ c ∧ c < wx0.heap.size) (.slice (some ⟨p0_0, 0, none⟩) x0.tables.length x0.tables.length) ∧ W.heap[wg.heap.size]? = some (.cells #[.slice ga R0.tables.length gc, .int .i64 R0.next] 32) ∧ Own W (dRowSS R0.tables) (fun c => ug ≤ c ∧ c < wg.heap.size) (.slice ga R0.tables.length gc)) → Frm (fun c => ug ≤ c ∧ c < wg.heap.size) W W' → (Own W' ((dRowSS R0.tables).mkd 1) (fun c => ug ≤ c ∧ c < wg.heap.size) (.slice ga R0.tables.length gc)) → (Below w.heap.size w W' ∧ W'.heap[w.heap.size]? = some (.cells #[.slice a0_0 x0.tables.length c0_0, .int .i64 x0.next] 24) ∧ W'.heap[w2.heap.size]? = some (.cells #[.slice ra R0.tables.length rc, .int .i64 R0.next] 32) ∧ Rd W' (· < w2.heap.size) (dRowSS R0.tables) (.slice ra R0.tables.length rc) ∧ W'.heap[wx0.heap.size]? = some (.cells #[.slice (some ⟨p0_0, 0, none⟩) x0.tables.length x0.tables.length, .int .i64 x0.next] 32) ∧ Own W' ((dRowSS x0.tables).mkd (1)) (fun c => u0 ≤ c ∧ c < wx0.heap.size) (.slice (some ⟨p0_0, 0, none⟩) x0.tables.length x0.tables.length) ∧ W'.heap[wg.heap.size]? = some (.cells #[.slice ga R0.tables.length gc, .int .i64 R0.next] 32) ∧ Own W' ((dRowSS R0.tables).mkd 1) (fun c => ug ≤ c ∧ c < wg.heap.size) (.slice ga R0.tables.length gc))) := fun W W' h hF ho0 => ⟨h.1.trans (Frm.below hF h.1.size (fun b hb hx => by have h1 := (fun (b : Nat) (hb : ug ≤ b ∧ b < wg.heap.size) => hb) b hx; have h2 := ORD.out; omega)), (hF.block _ (Array.getElem?_eq_some_iff.1 h.2.1).1 (fun hx => by have h1 := (fun (b : Nat) (hb : ug ≤ b ∧ b < wg.heap.size) => hb) _ hx; have h2 := ORD.out; omega)).trans h.2.1, (hF.block _ (Array.getElem?_eq_some_iff.1 h.2.2.1).1 (fun hx => by have h1 := (fun (b : Nat) (hb : ug ≤ b ∧ b < wg.heap.size) => hb) _ hx; have h2 := ORD.out; omega)).trans h.2.2.1, h.2.2.2.1.frm hF (fun b hb hx => by have h1 := (fun (b : Nat) (hb : ug ≤ b ∧ b < wg.heap.size) => hb) b hx; have h2 := ORD.out; have h3 : b < w2.heap.size := hb; omega), (hF.block _ (Array.getElem?_eq_some_iff.1 h.2.2.2.2.1).1 (fun hx => by have h1 := (fun (b : Nat) (hb : ug ≤ b ∧ b < wg.heap.size) => hb) _ hx; have h2 := ORD.out; omega)).trans h.2.2.2.2.1, h.2.2.2.2.2.1.frm hF (fun b hb hx => by have h1 := (fun (b : Nat) (hb : ug ≤ b ∧ b < wg.heap.size) => hb) b hx; have h2 := ORD.out; have h3 := (fun (b : Nat) (hb : u0 ≤ b ∧ b < wx0.heap.size) => hb) b hb; omega), (hF.block _ (Array.getElem?_eq_some_iff.1 h.2.2.2.2.2.2.1).1 (fun hx => by have h1 := (fun (b : Nat) (hb : ug ≤ b ∧ b < wg.heap.size) => hb) _ hx; have h2 := ORD.out; omega)).trans h.2.2.2.2.2.2.1, ho0⟩
  refine (mkDStore R0 ga gc 1 (fun c => ug ≤ c ∧ c < wg.heap.size) _ (HRB.out.1 0 (by omega)) (by omega) HRW.out (N4.out.2.2.2.2.2.2.2)).mono ?_
  rintro e wmg ⟨rfl, ho, hF⟩
  have N5 := Lib.hid (TGF.out _ _ N4.out hF ho)
  clear f_arg0_0 f_arg0_1 f_w0_0 f_w0_1 f_x0_0 f_x0_1 f_g_0 f_g_1
  clear ho hF N4
  have TGL : Hid (∀ W W', (Below w.heap.size w W ∧ W.heap[w.heap.size]? = some (.cells #[.slice a0_0 x0.tables.length c0_0, .int .i64 x0.next] 24) ∧ W.heap[w2.heap.size]? = some (.cells #[.slice ra R0.tables.length rc, .int .i64 R0.next] 32) ∧ Rd W (· < w2.heap.size) (dRowSS R0.tables) (.slice ra R0.tables.length rc) ∧ W.heap[wx0.heap.size]? = some (.cells #[.slice (some ⟨p0_0, 0, none⟩) x0.tables.length x0.tables.length, .int .i64 x0.next] 32) ∧ Own W ((dRowSS x0.tables).mkd (1)) (fun c => u0 ≤ c ∧ c < wx0.heap.size) (.slice (some ⟨p0_0, 0, none⟩) x0.tables.length x0.tables.length) ∧ W.heap[wg.heap.size]? = some (.cells #[.slice ga R0.tables.length gc, .int .i64 R0.next] 32) ∧ Own W ((dRowSS R0.tables).mkd 1) (fun c => ug ≤ c ∧ c < wg.heap.size) (.slice ga R0.tables.length gc)) → Below W.heap.size W W' → (Below w.heap.size w W' ∧ W'.heap[w.heap.size]? = some (.cells #[.slice a0_0 x0.tables.length c0_0, .int .i64 x0.next] 24) ∧ W'.heap[w2.heap.size]? = some (.cells #[.slice ra R0.tables.length rc, .int .i64 R0.next] 32) ∧ Rd W' (· < w2.heap.size) (dRowSS R0.tables) (.slice ra R0.tables.length rc) ∧ W'.heap[wx0.heap.size]? = some (.cells #[.slice (some ⟨p0_0, 0, none⟩) x0.tables.length x0.tables.length, .int .i64 x0.next] 32) ∧ Own W' ((dRowSS x0.tables).mkd (1)) (fun c => u0 ≤ c ∧ c < wx0.heap.size) (.slice (some ⟨p0_0, 0, none⟩) x0.tables.length x0.tables.length) ∧ W'.heap[wg.heap.size]? = some (.cells #[.slice ga R0.tables.length gc, .int .i64 R0.next] 32) ∧ Own W' ((dRowSS R0.tables).mkd 1) (fun c => ug ≤ c ∧ c < wg.heap.size) (.slice ga R0.tables.length gc))) := fun W W' h hB => ⟨h.1.trans (hB.mono h.1.size), heap_keptD h.2.1 hB, heap_keptD h.2.2.1 hB, h.2.2.2.1.later hB, heap_keptD h.2.2.2.2.1 hB, h.2.2.2.2.2.1.later hB, heap_keptD h.2.2.2.2.2.2.1 hB, h.2.2.2.2.2.2.2.later hB⟩
  have HD : Hid (∀ (W : World), Rd W (fun _ => True) ((dRowSS R0.tables).mkd 1) (.slice ga R0.tables.length gc) → Calls Try.prog 15 #[.agg #[.slice ga R0.tables.length gc, .int .i64 R0.next], .int .i64 1] W fun e w' => e = .returned (.int .i64 (1 + (dRowSS R0.tables).wd : Nat)) ∧ Below W.heap.size W w') := fun W h => hdDStore R0 ga gc 1 _ W (HRB.out.1 0 (by omega)) (by omega) HRW.out h
  obtain ⟨kg, hkg⟩ : ∃ y : Nat, y = 1 + (dRowSS R0.tables).wd := ⟨_, rfl⟩
  rw [← hkg] at HD ⊢
  have dkg : decide ((kg : Int) < 0) = false := by simp
  have nkg : ((kg : Int) != (kg : Int)) = false := by simp
  clear hkg
  have f_arg0_0 := cell_at (o := 0) N5.out.2.1 rfl
  have f_arg0_1 := cell_at (o := 1) N5.out.2.1 rfl
  have f_w0_0 := cell_at (o := 0) N5.out.2.2.1 rfl
  have f_w0_1 := cell_at (o := 1) N5.out.2.2.1 rfl
  have f_x0_0 := cell_at (o := 0) N5.out.2.2.2.2.1 rfl
  have f_x0_1 := cell_at (o := 1) N5.out.2.2.2.2.1 rfl
  have f_g_0 := cell_at (o := 0) N5.out.2.2.2.2.2.2.1 rfl
  have f_g_1 := cell_at (o := 1) N5.out.2.2.2.2.2.2.1 rfl
  go_wp2_with fail
  refine (HD.out _ (Rd.any (Own.rd' (N5.out.2.2.2.2.2.2.2)))).mono ?_
  rintro e wh5 ⟨rfl, hB⟩
  have N6 := Lib.hid (TGL.out _ _ N5.out hB)
  clear f_arg0_0 f_arg0_1 f_w0_0 f_w0_1 f_x0_0 f_x0_1 f_g_0 f_g_1
  clear hB N5
  have f_arg0_0 := cell_at (o := 0) N6.out.2.1 rfl
  have f_arg0_1 := cell_at (o := 1) N6.out.2.1 rfl
  have f_w0_0 := cell_at (o := 0) N6.out.2.2.1 rfl
  have f_w0_1 := cell_at (o := 1) N6.out.2.2.1 rfl
  have f_x0_0 := cell_at (o := 0) N6.out.2.2.2.2.1 rfl
  have f_x0_1 := cell_at (o := 1) N6.out.2.2.2.2.1 rfl
  have f_g_0 := cell_at (o := 0) N6.out.2.2.2.2.2.2.1 rfl
  have f_g_1 := cell_at (o := 1) N6.out.2.2.2.2.2.2.1 rfl
  go_wp2_with fail
  refine (TO0.out _ ⟨N6.out.1, N6.out.2.1⟩).mono ?_
  rintro e wz ⟨q0_0, rfl, ho, hB, -⟩
  have RC0_0 : Hid (Rd _ (fun _ => True) (dRowSS x0.tables) (.slice (some ⟨q0_0, 0, none⟩) x0.tables.length x0.tables.length)) := (Owns.one ho (j := 0) (by omega)).rd'.any
  clear ho
  have N7 := Lib.hid (TGL.out _ _ N6.out hB)
  clear f_arg0_0 f_arg0_1 f_w0_0 f_w0_1 f_x0_0 f_x0_1 f_g_0 f_g_1
  clear hB N6
  have f_arg0_0 := cell_at (o := 0) N7.out.2.1 rfl
  have f_arg0_1 := cell_at (o := 1) N7.out.2.1 rfl
  have f_w0_0 := cell_at (o := 0) N7.out.2.2.1 rfl
  have f_w0_1 := cell_at (o := 1) N7.out.2.2.1 rfl
  have f_x0_0 := cell_at (o := 0) N7.out.2.2.2.2.1 rfl
  have f_x0_1 := cell_at (o := 1) N7.out.2.2.2.2.1 rfl
  have f_g_0 := cell_at (o := 0) N7.out.2.2.2.2.2.2.1 rfl
  have f_g_1 := cell_at (o := 1) N7.out.2.2.2.2.2.2.1 rfl
  go_wp2_with fail
  refine (CI.out _ _ _ RC0_0.out).mono ?_
  rintro e wy ⟨ya, yc, rfl, ho, hB⟩
  have hm := TGL.out _ _ N7.out hB
  have hq := TGL.out _ _ hm (below_allocD wy (.cells #[.slice ya R0.tables.length yc, .int .i64 R0.next] 32))
  have BH : Hid ((wy.alloc (.cells #[.slice ya R0.tables.length yc, .int .i64 R0.next] 32)).heap[wy.heap.size]? = some (.cells #[.slice ya R0.tables.length yc, .int .i64 R0.next] 32) ∧ Rd (wy.alloc (.cells #[.slice ya R0.tables.length yc, .int .i64 R0.next] 32)) (fun _ => True) (dRowSS R0.tables) (.slice ya R0.tables.length yc)) := ⟨heap_newD _ _, Rd.later (Rd.any (Own.rd' ho)) (below_allocD _ _)⟩
  have N8 := Lib.hid hq
  clear f_arg0_0 f_arg0_1 f_w0_0 f_w0_1 f_x0_0 f_x0_1 f_g_0 f_g_1
  clear hm ho hB hq N7 RC0_0
  have f_arg0_0 := cell_at (o := 0) N8.out.2.1 rfl
  have f_arg0_1 := cell_at (o := 1) N8.out.2.1 rfl
  have f_w0_0 := cell_at (o := 0) N8.out.2.2.1 rfl
  have f_w0_1 := cell_at (o := 1) N8.out.2.2.1 rfl
  have f_x0_0 := cell_at (o := 0) N8.out.2.2.2.2.1 rfl
  have f_x0_1 := cell_at (o := 1) N8.out.2.2.2.2.1 rfl
  have f_g_0 := cell_at (o := 0) N8.out.2.2.2.2.2.2.1 rfl
  have f_g_1 := cell_at (o := 1) N8.out.2.2.2.2.2.2.1 rfl
  have h_0 := cell_at (o := 0) BH.out.1 rfl
  have h_1 := cell_at (o := 1) BH.out.1 rfl
  go_wp2_with fail
  refine (EQR.out _ _ _ _ _ BH.out.2 (Rd.any (N8.out.2.2.2.1))).mono ?_
  rintro e wv ⟨rfl, hB⟩
  have N9 := Lib.hid (TGL.out _ _ N8.out hB)
  clear f_arg0_0 f_arg0_1 f_w0_0 f_w0_1 f_x0_0 f_x0_1 f_g_0 f_g_1
  clear hB N8
  have f_arg0_0 := cell_at (o := 0) N9.out.2.1 rfl
  have f_arg0_1 := cell_at (o := 1) N9.out.2.1 rfl
  have f_w0_0 := cell_at (o := 0) N9.out.2.2.1 rfl
  have f_w0_1 := cell_at (o := 1) N9.out.2.2.1 rfl
  have f_x0_0 := cell_at (o := 0) N9.out.2.2.2.2.1 rfl
  have f_x0_1 := cell_at (o := 1) N9.out.2.2.2.2.1 rfl
  have f_g_0 := cell_at (o := 0) N9.out.2.2.2.2.2.2.1 rfl
  have f_g_1 := cell_at (o := 1) N9.out.2.2.2.2.2.2.1 rfl
  clear h_0 h_1
  go_wp2_with fail
  refine (HD.out _ (Rd.any (Own.rd' (N9.out.2.2.2.2.2.2.2)))).mono ?_
  rintro e wh9 ⟨rfl, hB⟩
  have N10 := Lib.hid (TGL.out _ _ N9.out hB)
  clear f_arg0_0 f_arg0_1 f_w0_0 f_w0_1 f_x0_0 f_x0_1 f_g_0 f_g_1
  clear hB N9
  have f_arg0_0 := cell_at (o := 0) N10.out.2.1 rfl
  have f_arg0_1 := cell_at (o := 1) N10.out.2.1 rfl
  have f_w0_0 := cell_at (o := 0) N10.out.2.2.1 rfl
  have f_w0_1 := cell_at (o := 1) N10.out.2.2.1 rfl
  have f_x0_0 := cell_at (o := 0) N10.out.2.2.2.2.1 rfl
  have f_x0_1 := cell_at (o := 1) N10.out.2.2.2.2.1 rfl
  have f_g_0 := cell_at (o := 0) N10.out.2.2.2.2.2.2.1 rfl
  have f_g_1 := cell_at (o := 1) N10.out.2.2.2.2.2.2.1 rfl
  go_wp2_with fail
  go_ret
  exact ⟨rfl, N10.out.1⟩
end Go.Proofs.Ytgiaabgcbpafgaa
