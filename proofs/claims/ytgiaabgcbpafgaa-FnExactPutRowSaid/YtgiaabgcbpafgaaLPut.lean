import Derived.Test.YtgiaabgcbpafgaaDStP
import Derived.Test.YtgiaabgcbpafgaaDRwM
import Derived.Test.YtgiaabgcbpafgaaDPuS
import Derived.Test.YtgiaabgcbpafgaaDPuI
import Derived.Test.YtgiaabgcbpafgaaDPuL
import Derived.Deep.RegionHeld3
import Derived.Deep.CutRange
namespace Go.Proofs.Ytgiaabgcbpafgaa
open Go.RowKit
set_option linter.unusedSimpArgs false
set_option maxRecDepth 100000 in
set_option maxHeartbeats 12800000 in
theorem lawPutRow (x0 : StV) (x1 : Int) (x2 : RowV) (a0_0 : Option Addr) (c0_0 : Nat) (a2_1 : Option Addr) (c2_1 : Nat) (w : World) (l0_0 : (dRowSS x0.tables).le maxLen) (l2_1 : (dAtomSS x2.cells).le maxLen) (l0_1 : iOK x0.next) (l2_0 : iOK x2.id) (l1 : iOK x1) (r0_0 : Rd w (· < w.heap.size) (dRowSS x0.tables) (.slice a0_0 x0.tables.length c0_0)) (r2_1 : Rd w (· < w.heap.size) (dAtomSS x2.cells) (.slice a2_1 x2.cells.length c2_1)) :
    Calls Try.prog 3 #[.agg #[.slice a0_0 x0.tables.length c0_0, .int .i64 x0.next], .int .i64 x1, .agg #[.int .i64 x2.id, .slice a2_1 x2.cells.length c2_1]] w fun e w' => e = .returned (.bool true) ∧ Below w.heap.size w w' := by
  have HL0_0 := Lib.hid l0_0
  have HO0 : Hid (∀ j, j < 2 → (dStore x0 j).le maxLen) := fun j hj => by
    rcases (by omega : j = 0 ∨ j = 1) with rfl | rfl
    · exact l0_0
    · exact l0_1
  have RA0_0 : Hid (∀ W, Below w.heap.size w W → Rd W (· < w.heap.size) (dRowSS x0.tables) (.slice a0_0 x0.tables.length c0_0)) := fun W h => Rd.same (fun b hb => h.block b hb) (fun _ h => h) _ _ r0_0
  have HL2_1 := Lib.hid l2_1
  have HO2 : Hid (∀ j, j < 2 → (dRow x2 j).le maxLen) := fun j hj => by
    rcases (by omega : j = 0 ∨ j = 1) with rfl | rfl
    · exact l2_0
    · exact l2_1
  have RA2_1 : Hid (∀ W, Below w.heap.size w W → Rd W (· < w.heap.size) (dAtomSS x2.cells) (.slice a2_1 x2.cells.length c2_1)) := fun W h => Rd.same (fun b hb => h.block b hb) (fun _ h => h) _ _ r2_1
  have HW1 := Lib.hid l1
  have ALAT : Hid (∀ W W', (Below w.heap.size w W ∧ W.heap[w.heap.size]? = some (.cells #[.slice a0_0 x0.tables.length c0_0, .int .i64 x0.next] 24) ∧ W.heap[w.heap.size + 1]? = some (.cells #[.int .i64 x2.id, .slice a2_1 x2.cells.length c2_1] 27)) → Below W.heap.size W W' → (Below w.heap.size w W' ∧ W'.heap[w.heap.size]? = some (.cells #[.slice a0_0 x0.tables.length c0_0, .int .i64 x0.next] 24) ∧ W'.heap[w.heap.size + 1]? = some (.cells #[.int .i64 x2.id, .slice a2_1 x2.cells.length c2_1] 27))) := fun W W' h hB => ⟨h.1.trans (hB.mono h.1.size), heap_keptD h.2.1 hB, heap_keptD h.2.2 hB⟩
  have A0 : Hid (Below w.heap.size w ((w.alloc (.cells #[.slice a0_0 x0.tables.length c0_0, .int .i64 x0.next] 24)).alloc (.cells #[.int .i64 x2.id, .slice a2_1 x2.cells.length c2_1] 27)) ∧ ((w.alloc (.cells #[.slice a0_0 x0.tables.length c0_0, .int .i64 x0.next] 24)).alloc (.cells #[.int .i64 x2.id, .slice a2_1 x2.cells.length c2_1] 27)).heap[w.heap.size]? = some (.cells #[.slice a0_0 x0.tables.length c0_0, .int .i64 x0.next] 24) ∧ ((w.alloc (.cells #[.slice a0_0 x0.tables.length c0_0, .int .i64 x0.next] 24)).alloc (.cells #[.int .i64 x2.id, .slice a2_1 x2.cells.length c2_1] 27)).heap[w.heap.size + 1]? = some (.cells #[.int .i64 x2.id, .slice a2_1 x2.cells.length c2_1] 27)) := by
    refine ⟨(below_allocD _ _).trans ((below_allocD _ _).mono (by simp)), heap_keptD (heap_newD _ _) (below_allocD _ _), ?_⟩
    have h := heap_newD (w.alloc (.cells #[.slice a0_0 x0.tables.length c0_0, .int .i64 x0.next] 24)) (.cells #[.int .i64 x2.id, .slice a2_1 x2.cells.length c2_1] 27)
    rw [size_allocD] at h
    exact h
  clear l0_0 r0_0 l2_1 r2_1 l1 l0_1 l2_0
  have x0_0 := cell_at (o := 0) A0.out.2.1 rfl
  have x0_1 := cell_at (o := 1) A0.out.2.1 rfl
  have x2_0 := cell_at (o := 0) A0.out.2.2 rfl
  have x2_1 := cell_at (o := 1) A0.out.2.2 rfl
  go_enter Try.func3, Try.ntmps3
  go_wp2_with fail
  have bl : Hid ((0 : Int) ≤ 1048576 ∧ (1048576 : Int) ≤ 1048576) := by show _ ∧ _; omega
  refine (szDStore x0 a0_0 c0_0 1048576 _ _ bl.out.1 bl.out.2 HO0.out (RA0_0.out _ A0.out.1)).mono ?_
  rintro e ws0 ⟨rfl, hB⟩
  have AS0 := Lib.hid (ALAT.out _ _ A0.out hB)
  clear hB A0 x0_0 x0_1 x2_0 x2_1
  have x0_0 := cell_at (o := 0) AS0.out.2.1 rfl
  have x0_1 := cell_at (o := 1) AS0.out.2.1 rfl
  have x2_0 := cell_at (o := 0) AS0.out.2.2 rfl
  have x2_1 := cell_at (o := 1) AS0.out.2.2 rfl
  by_cases hz0 : (1048576 : Int) - (szT 2 (dStore x0) : Int) < 0
  case pos =>
    rw [less_no hz0]
    go_wp2_with fail
    go_ret
    exact ⟨rfl, AS0.out.1⟩
  rw [less_yes (by omega)]
  obtain ⟨L0, hL0⟩ : ∃ L0 : Int, L0 = 1048576 - (szT 2 (dStore x0) : Int) := ⟨_, rfl⟩
  rw [← hL0]
  have dL0 : decide (L0 < 0) = false := decide_eq_false (by omega)
  have HZ0 : Hid (szT 2 (dStore x0) ≤ 1048576) := by have := bl.out; show _ ≤ _; omega
  have b2 : Hid (0 ≤ L0 ∧ L0 ≤ 1048576) := by have := bl.out; show _ ∧ _; omega
  clear hz0 hL0 bl
  have bl := b2
  clear b2
  go_wp2_with fail
  refine (szDRow x2 a2_1 c2_1 L0 _ _ bl.out.1 bl.out.2 HO2.out (RA2_1.out _ AS0.out.1)).mono ?_
  rintro e ws2 ⟨rfl, hB⟩
  have AS2 := Lib.hid (ALAT.out _ _ AS0.out hB)
  clear hB AS0 x0_0 x0_1 x2_0 x2_1
  have x0_0 := cell_at (o := 0) AS2.out.2.1 rfl
  have x0_1 := cell_at (o := 1) AS2.out.2.1 rfl
  have x2_0 := cell_at (o := 0) AS2.out.2.2 rfl
  have x2_1 := cell_at (o := 1) AS2.out.2.2 rfl
  by_cases hz2 : L0 - (szT 2 (dRow x2) : Int) < 0
  case pos =>
    rw [less_no hz2]
    go_wp2_with fail
    go_ret
    exact ⟨rfl, AS2.out.1⟩
  rw [less_yes (by omega)]
  obtain ⟨L2, hL2⟩ : ∃ L2 : Int, L2 = L0 - (szT 2 (dRow x2) : Int) := ⟨_, rfl⟩
  rw [← hL2]
  have dL2 : decide (L2 < 0) = false := decide_eq_false (by omega)
  have HZ2 : Hid (szT 2 (dRow x2) ≤ 1048576) := by have := bl.out; show _ ≤ _; omega
  have b2 : Hid (0 ≤ L2 ∧ L2 ≤ 1048576) := by have := bl.out; show _ ∧ _; omega
  clear hz2 hL2 bl
  have bl := b2
  clear b2
  go_upto_region 8 with fail
  have HK0 : Hid (∀ j, j < 2 → (dStore x0 j).le 1048576) := fun j hj => D.le_of_sz _ (HO0.out j hj) (Nat.le_trans (sumN_le (g := fun j => (dStore x0 j).sz) hj) HZ0.out)
  have HK2 : Hid (∀ j, j < 2 → (dRow x2 j).le 1048576) := fun j hj => D.le_of_sz _ (HO2.out j hj) (Nat.le_trans (sumN_le (g := fun j => (dRow x2 j).sz) hj) HZ2.out)
  have TO0 : Hid (∀ W, (Below w.heap.size w W ∧ W.heap[w.heap.size]? = some (.cells #[.slice a0_0 x0.tables.length c0_0, .int .i64 x0.next] 24) ∧ W.heap[w.heap.size + 1]? = some (.cells #[.int .i64 x2.id, .slice a2_1 x2.cells.length c2_1] 27)) → Calls Try.prog 8 #[.agg #[.slice a0_0 x0.tables.length c0_0, .int .i64 x0.next]] W fun e w' => ∃ p0 : Nat, e = .returned (.agg #[.slice (some ⟨p0, 0, none⟩) x0.tables.length x0.tables.length, .int .i64 x0.next]) ∧ Owns w' 2 (dStore x0) (vat [.slice (some ⟨p0, 0, none⟩) x0.tables.length x0.tables.length, .int .i64 x0.next]) (fun c => W.heap.size ≤ c ∧ c < w'.heap.size) ∧ Below W.heap.size W w' ∧ (Below w.heap.size w w' ∧ w'.heap[w.heap.size]? = some (.cells #[.slice a0_0 x0.tables.length c0_0, .int .i64 x0.next] 24) ∧ w'.heap[w.heap.size + 1]? = some (.cells #[.int .i64 x2.id, .slice a2_1 x2.cells.length c2_1] 27))) := fun W h => (toDStore x0 a0_0 c0_0 _ W HK0.out (RA0_0.out W h.1)).mono (fun e w' ⟨p0, he, ho, hB⟩ => ⟨p0, he, ho, hB, ALAT.out _ _ h hB⟩)
  have TO2 : Hid (∀ W, (Below w.heap.size w W ∧ W.heap[w.heap.size]? = some (.cells #[.slice a0_0 x0.tables.length c0_0, .int .i64 x0.next] 24) ∧ W.heap[w.heap.size + 1]? = some (.cells #[.int .i64 x2.id, .slice a2_1 x2.cells.length c2_1] 27)) → Calls Try.prog 9 #[.agg #[.int .i64 x2.id, .slice a2_1 x2.cells.length c2_1]] W fun e w' => ∃ p1 : Nat, e = .returned (.agg #[.int .i64 x2.id, .slice (some ⟨p1, 0, none⟩) x2.cells.length x2.cells.length]) ∧ Owns w' 2 (dRow x2) (vat [.int .i64 x2.id, .slice (some ⟨p1, 0, none⟩) x2.cells.length x2.cells.length]) (fun c => W.heap.size ≤ c ∧ c < w'.heap.size) ∧ Below W.heap.size W w' ∧ (Below w.heap.size w w' ∧ w'.heap[w.heap.size]? = some (.cells #[.slice a0_0 x0.tables.length c0_0, .int .i64 x0.next] 24) ∧ w'.heap[w.heap.size + 1]? = some (.cells #[.int .i64 x2.id, .slice a2_1 x2.cells.length c2_1] 27))) := fun W h => (toDRow x2 a2_1 c2_1 _ W HK2.out (RA2_1.out W h.1)).mono (fun e w' ⟨p1, he, ho, hB⟩ => ⟨p1, he, ho, hB, ALAT.out _ _ h hB⟩)
  obtain ⟨R0, hR0⟩ : ∃ r, r = (putP x0 x1 x2).2 := ⟨_, rfl⟩
  obtain ⟨R1, hR1⟩ : ∃ r, r = (putP x0 x1 x2).1 := ⟨_, rfl⟩
  have CS : Hid (∀ (W : World) (b0_0 : Option Addr) (e0_0 : Nat) (b2_1 : Option Addr) (e2_1 : Nat), Rd W (fun _ => True) (dRowSS x0.tables) (.slice b0_0 x0.tables.length e0_0) → Rd W (fun _ => True) (dAtomSS x2.cells) (.slice b2_1 x2.cells.length e2_1) → Calls Try.prog 7 #[.agg #[.slice b0_0 x0.tables.length e0_0, .int .i64 x0.next], .int .i64 x1, .agg #[.int .i64 x2.id, .slice b2_1 x2.cells.length e2_1]] W fun e w' => ∃ (ra : Option Addr) (rc : Nat), e = .returned (.tuple #[.agg #[.slice ra R0.tables.length rc, .int .i64 R0.next], .int .i64 R1]) ∧ Rd w' (fun c => W.heap.size ≤ c ∧ c < w'.heap.size) (dRowSS R0.tables) (.slice ra R0.tables.length rc) ∧ Below W.heap.size W w') := fun W b0_0 e0_0 b2_1 e2_1 h0_0 h2_1 => by rw [hR0, hR1]; exact putRowS x0 x1 x2 b0_0 e0_0 b2_1 e2_1 _ _ W HL0_0.out (HK0.out 0 (by omega)) (HK2.out 1 (by omega)) h0_0 h2_1
  have CI : Hid (∀ (W : World) (b0_0 : Option Addr) (e0_0 : Nat) (b2_1 : Option Addr) (e2_1 : Nat), Rd W (fun _ => True) (dRowSS x0.tables) (.slice b0_0 x0.tables.length e0_0) → Rd W (fun _ => True) (dAtomSS x2.cells) (.slice b2_1 x2.cells.length e2_1) → Calls Try.prog 10 #[.agg #[.slice b0_0 x0.tables.length e0_0, .int .i64 x0.next], .int .i64 x1, .agg #[.int .i64 x2.id, .slice b2_1 x2.cells.length e2_1]] W fun e w' => ∃ (ra : Option Addr) (rc : Nat), e = .returned (.tuple #[.agg #[.slice ra R0.tables.length rc, .int .i64 R0.next], .int .i64 R1]) ∧ Own w' (dRowSS R0.tables) (fun c => W.heap.size ≤ c ∧ c < w'.heap.size) (.slice ra R0.tables.length rc) ∧ Below W.heap.size W w') := fun W b0_0 e0_0 b2_1 e2_1 h0_0 h2_1 => by rw [hR0, hR1]; exact putI x0 x1 x2 b0_0 e0_0 b2_1 e2_1 _ _ W HL0_0.out (HK0.out 0 (by omega)) (HK2.out 1 (by omega)) (HO2.out 0 (by omega)) h0_0 h2_1
  have HRB : Hid ((∀ j, j < 2 → (dStore R0 j).le maxLen) ∧ (dRowSS R0.tables).sz ≤ 100000000) := by rw [hR0]; exact put_le x1 HL0_0.out (HK0.out 0 (by omega)) (HK0.out 1 (by omega)) (by have := HZ0.out; rw [szT_Store] at this; exact this) HO2.out HZ2.out
  have HRW : Hid (1 + (dRowSS R0.tables).wd < 100000000000) := by have h1 := D.wd_le (dRowSS R0.tables) (HRB.out.1 0 (by omega)); have h2 := HRB.out.2; show _ < _; omega
  have nq1 : (R1 != R1) = false := by simp
  clear hR0 hR1
  have EQ0 : Hid (∀ (W : World) (b0 : Option Addr) (e0 : Nat) (f0 : Option Addr) (g0 : Nat), Rd W (fun _ => True) (dRowSS x0.tables) (.slice b0 x0.tables.length e0) → Rd W (fun _ => True) (dRowSS x0.tables) (.slice f0 x0.tables.length g0) → Calls Try.prog 11 #[.agg #[.slice b0 x0.tables.length e0, .int .i64 x0.next], .agg #[.slice f0 x0.tables.length g0, .int .i64 x0.next]] W fun e w' => e = .returned (.bool true) ∧ Below W.heap.size W w') := fun W b0 e0 f0 g0 h0 i0 => eqDStore x0 b0 e0 f0 g0 _ _ W HO0.out h0 i0
  have EQ2 : Hid (∀ (W : World) (b1 : Option Addr) (e1 : Nat) (f1 : Option Addr) (g1 : Nat), Rd W (fun _ => True) (dAtomSS x2.cells) (.slice b1 x2.cells.length e1) → Rd W (fun _ => True) (dAtomSS x2.cells) (.slice f1 x2.cells.length g1) → Calls Try.prog 12 #[.agg #[.int .i64 x2.id, .slice b1 x2.cells.length e1], .agg #[.int .i64 x2.id, .slice f1 x2.cells.length g1]] W fun e w' => e = .returned (.bool true) ∧ Below W.heap.size W w') := fun W b1 e1 f1 g1 h1 i1 => eqDRow x2 b1 e1 f1 g1 _ _ W HO2.out h1 i1
  have HOR := Lib.hid HRB.out.1
  have EQR : Hid (∀ (W : World) (b0 : Option Addr) (e0 : Nat) (f0 : Option Addr) (g0 : Nat), Rd W (fun _ => True) (dRowSS R0.tables) (.slice b0 R0.tables.length e0) → Rd W (fun _ => True) (dRowSS R0.tables) (.slice f0 R0.tables.length g0) → Calls Try.prog 11 #[.agg #[.slice b0 R0.tables.length e0, .int .i64 R0.next], .agg #[.slice f0 R0.tables.length g0, .int .i64 R0.next]] W fun e w' => e = .returned (.bool true) ∧ Below W.heap.size W w') := fun W b0 e0 f0 g0 h0 i0 => eqDStore R0 b0 e0 f0 g0 _ _ W HOR.out h0 i0
  have HST : Hid (∀ W, Below ws2.heap.size ws2 W → (Below w.heap.size w W ∧ W.heap[w.heap.size]? = some (.cells #[.slice a0_0 x0.tables.length c0_0, .int .i64 x0.next] 24) ∧ W.heap[w.heap.size + 1]? = some (.cells #[.int .i64 x2.id, .slice a2_1 x2.cells.length c2_1] 27))) := fun W h => ALAT.out _ _ AS2.out h
  have CE : Hid (∀ W, (Below w.heap.size w W ∧ W.heap[w.heap.size]? = some (.cells #[.slice a0_0 x0.tables.length c0_0, .int .i64 x0.next] 24) ∧ W.heap[w.heap.size + 1]? = some (.cells #[.int .i64 x2.id, .slice a2_1 x2.cells.length c2_1] 27)) → (W.cell? ⟨w.heap.size, 0, none⟩ = some (.slice a0_0 x0.tables.length c0_0) ∧ W.cell? ⟨w.heap.size, 1, none⟩ = some (.int .i64 x0.next) ∧ W.cell? ⟨w.heap.size + 1, 0, none⟩ = some (.int .i64 x2.id) ∧ W.cell? ⟨w.heap.size + 1, 1, none⟩ = some (.slice a2_1 x2.cells.length c2_1))) := fun W h => ⟨cell_at (o := 0) h.2.1 rfl, cell_at (o := 1) h.2.1 rfl, cell_at (o := 0) h.2.2 rfl, cell_at (o := 1) h.2.2 rfl⟩
  have HSX : Hid (∀ W, (Below w.heap.size w W ∧ W.heap[w.heap.size]? = some (.cells #[.slice a0_0 x0.tables.length c0_0, .int .i64 x0.next] 24) ∧ W.heap[w.heap.size + 1]? = some (.cells #[.int .i64 x2.id, .slice a2_1 x2.cells.length c2_1] 27)) → (Below w.heap.size w W ∧ W.heap[w.heap.size]? = some (.cells #[.slice a0_0 x0.tables.length c0_0, .int .i64 x0.next] 24) ∧ W.heap[w.heap.size + 1]? = some (.cells #[.int .i64 x2.id, .slice a2_1 x2.cells.length c2_1] 27))) := fun W h => ⟨h.1, h.2.1, h.2.2⟩
  clear AS2 x0_0 x0_1 x2_0 x2_1
  go_cut [8, 9] from 29 to 37 (fun s0 s1 wx => ∃ (ra : Option Addr) (rc b0 : Nat), s0 = .pointer (some ⟨b0, 0, none⟩) ∧ s1 = .int .i64 R1 ∧ Hid ((Below w.heap.size w wx ∧ wx.heap[w.heap.size]? = some (.cells #[.slice a0_0 x0.tables.length c0_0, .int .i64 x0.next] 24) ∧ wx.heap[w.heap.size + 1]? = some (.cells #[.int .i64 x2.id, .slice a2_1 x2.cells.length c2_1] 27) ∧ wx.heap[b0]? = some (.cells #[.slice ra R0.tables.length rc, .int .i64 R0.next] 32) ∧ Rd wx (· < wx.heap.size) (dRowSS R0.tables) (.slice ra R0.tables.length rc)) ∧ w.heap.size + 2 ≤ wx.heap.size ∧ b0 < wx.heap.size))
  case first =>
    have BS : Hid (Below ws2.heap.size ws2 ws2) := Below.refl _ _
    refine wp_region_held_drew (S := (fun W => W.cell? ⟨w.heap.size, 0, none⟩ = some (.slice a0_0 x0.tables.length c0_0) ∧ W.cell? ⟨w.heap.size, 1, none⟩ = some (.int .i64 x0.next) ∧ W.cell? ⟨w.heap.size + 1, 0, none⟩ = some (.int .i64 x2.id) ∧ W.cell? ⟨w.heap.size + 1, 1, none⟩ = some (.slice a2_1 x2.cells.length c2_1))) (by kernel_rfl) ?_ (fun hHeld => ?_)
    · (first | exact CE.out _ (HST.out _ BS.out) | exact CE.out _ (HST.out _ BS.out.drew))
    refine wpAnyH_take (i := 0) (v := ?_) rfl (by kernel_rfl) (by kernel_rfl) (by kernel_rfl) (fun _ _ _ h => h) (Or.inl ⟨by kernel_rfl, ?_⟩) (by assumption) ?_
    rotate_left
    · (intro wS hSw; (try dsimp only at hSw); go_simp <;> with_reducible rfl)
    try simp only [Act.put, List.getElem_toArray, List.getElem_cons_succ, List.getElem_cons_zero, List.setIfInBounds_toArray, List.set_cons_zero, List.set_cons_succ]
    refine wpAnyH_take (i := 2) (v := ?_) rfl (by kernel_rfl) (by kernel_rfl) (by kernel_rfl) (fun _ _ _ h => h) (Or.inl ⟨by kernel_rfl, ?_⟩) (by assumption) ?_
    rotate_left
    · (intro wS hSw; (try dsimp only at hSw); go_simp <;> with_reducible rfl)
    try simp only [Act.put, List.getElem_toArray, List.getElem_cons_succ, List.getElem_cons_zero, List.setIfInBounds_toArray, List.set_cons_zero, List.set_cons_succ]
    refine wpAnyH_take (i := 3) (v := ?_) rfl (by kernel_rfl) (by kernel_rfl) (by kernel_rfl) (fun _ _ _ h => h) (Or.inl ⟨by kernel_rfl, ?_⟩) (by assumption) ?_
    rotate_left
    · (intro wS hSw; (try dsimp only at hSw); go_simp <;> with_reducible rfl)
    try simp only [Act.put, List.getElem_toArray, List.getElem_cons_succ, List.getElem_cons_zero, List.setIfInBounds_toArray, List.set_cons_zero, List.set_cons_succ]
    refine wpAnyH_ready (rs := [1, 9]) (by kernel_rfl) (by simp) (AllReadyH.cons rfl (fun K hK => ?_) (AllReadyH.cons rfl (fun K hK => ?_) AllReadyH.nil))
    ·
      go_simp
      go_at_call 8
      refine (TO0.out _ (by first | exact HSX.out _ (HST.out _ BS.out) | exact HSX.out _ (HST.out _ BS.out.drew))).mono ?_
      rintro e wt0 ⟨p0_0, rfl, ho, hB, -⟩
      have hb : Below ws2.heap.size ws2 wt0 := by first | exact hB | exact (Below.refl _ _).drew.trans hB
      have BS' : Hid (Below ws2.heap.size ws2 wt0) := BS.out.trans (hb.mono BS.out.size)
      clear BS
      have BS := BS'
      clear BS'
      have RC0_0 : Hid (∀ W, Below wt0.heap.size wt0 W → Rd W (fun _ => True) (dRowSS x0.tables) (.slice (some ⟨p0_0, 0, none⟩) x0.tables.length x0.tables.length)) := fun W h => Rd.later ((Owns.one ho (j := 0) (by omega)).rd'.any) h
      have BC0 : Hid (Below wt0.heap.size wt0 wt0) := Below.refl _ _
      clear hb hB ho
      refine hK.out _ _ ?_ (fun hHeld => ?_)
      · (first | exact CE.out _ (HST.out _ BS.out) | exact CE.out _ (HST.out _ BS.out.drew))
      clear hK K
      try simp only [Act.put, List.getElem_toArray, List.getElem_cons_succ, List.getElem_cons_zero, List.setIfInBounds_toArray, List.set_cons_zero, List.set_cons_succ]
      refine wpAnyH_ready (rs := [4, 9]) (by kernel_rfl) (by simp) (AllReadyH.cons rfl (fun K hK => ?_) (AllReadyH.cons rfl (fun K hK => ?_) AllReadyH.nil))
      ·
        go_simp
        go_at_call 9
        refine (TO2.out _ (by first | exact HSX.out _ (HST.out _ BS.out) | exact HSX.out _ (HST.out _ BS.out.drew))).mono ?_
        rintro e wt2 ⟨p2_1, rfl, ho, hB, -⟩
        have hb : Below wt0.heap.size wt0 wt2 := by first | exact hB | exact (Below.refl _ _).drew.trans hB
        have BS' : Hid (Below ws2.heap.size ws2 wt2) := BS.out.trans (hb.mono BS.out.size)
        clear BS
        have BS := BS'
        clear BS'
        have BC0' : Hid (Below wt0.heap.size wt0 wt2) := BC0.out.trans (hb.mono BC0.out.size)
        clear BC0
        have BC0 := BC0'
        clear BC0'
        have RC2_1 : Hid (∀ W, Below wt2.heap.size wt2 W → Rd W (fun _ => True) (dAtomSS x2.cells) (.slice (some ⟨p2_1, 0, none⟩) x2.cells.length x2.cells.length)) := fun W h => Rd.later ((Owns.one ho (j := 1) (by omega)).rd'.any) h
        have BC2 : Hid (Below wt2.heap.size wt2 wt2) := Below.refl _ _
        clear hb hB ho
        refine hK.out _ _ ?_ (fun hHeld => ?_)
        · (first | exact CE.out _ (HST.out _ BS.out) | exact CE.out _ (HST.out _ BS.out.drew))
        clear hK K
        try simp only [Act.put, List.getElem_toArray, List.getElem_cons_succ, List.getElem_cons_zero, List.setIfInBounds_toArray, List.set_cons_zero, List.set_cons_succ]
        refine wpAnyH_ready (rs := [5, 9]) (by kernel_rfl) (by simp) (AllReadyH.cons rfl (fun K hK => ?_) (AllReadyH.cons rfl (fun K hK => ?_) AllReadyH.nil))
        ·
          go_simp
          go_at_call 7
          refine (CS.out _ _ _ _ _ (by first | exact RC0_0.out _ BC0.out | exact RC0_0.out _ BC0.out.drew) (by first | exact RC2_1.out _ BC2.out | exact RC2_1.out _ BC2.out.drew)).mono ?_
          rintro e w2 ⟨ra, rc, rfl, hr2, hB⟩
          have hb : Below wt2.heap.size wt2 w2 := by first | exact hB | exact (Below.refl _ _).drew.trans hB
          have BS' : Hid (Below ws2.heap.size ws2 w2) := BS.out.trans (hb.mono BS.out.size)
          clear BS
          have BS := BS'
          clear BS'
          have BC0' : Hid (Below wt0.heap.size wt0 w2) := BC0.out.trans (hb.mono BC0.out.size)
          clear BC0
          have BC0 := BC0'
          clear BC0'
          have BC2' : Hid (Below wt2.heap.size wt2 w2) := BC2.out.trans (hb.mono BC2.out.size)
          clear BC2
          have BC2 := BC2'
          clear BC2'
          have HR2 : Hid (Rd w2 (fun b => wt2.heap.size ≤ b ∧ b < w2.heap.size) (dRowSS R0.tables) (.slice ra R0.tables.length rc)) := by first | exact hr2 | (simpa using hr2)
          clear hb hB hr2
          refine hK.out _ _ ?_ (fun hHeld => ?_)
          · (first | exact CE.out _ (HST.out _ BS.out) | exact CE.out _ (HST.out _ BS.out.drew))
          clear hK K
          try simp only [Act.put, List.getElem_toArray, List.getElem_cons_succ, List.getElem_cons_zero, List.setIfInBounds_toArray, List.set_cons_zero, List.set_cons_succ]
          refine wpAnyH_take (i := 6) (v := ?_) rfl (by kernel_rfl) (by kernel_rfl) (by kernel_rfl) (fun _ _ _ h => h) (Or.inl ⟨by kernel_rfl, ?_⟩) (by assumption) ?_
          rotate_left
          · (intro wS hSw; (try dsimp only at hSw); go_simp <;> with_reducible rfl)
          try simp only [Act.put, List.getElem_toArray, List.getElem_cons_succ, List.getElem_cons_zero, List.setIfInBounds_toArray, List.set_cons_zero, List.set_cons_succ]
          refine wpAnyH_take (i := 7) (v := ?_) rfl (by kernel_rfl) (by kernel_rfl) (by kernel_rfl) (fun _ _ _ h => h) (Or.inl ⟨by kernel_rfl, ?_⟩) (by assumption) ?_
          rotate_left
          · (intro wS hSw; (try dsimp only at hSw); go_simp <;> with_reducible rfl)
          try simp only [Act.put, List.getElem_toArray, List.getElem_cons_succ, List.getElem_cons_zero, List.setIfInBounds_toArray, List.set_cons_zero, List.set_cons_succ]
          refine wpAnyH_take (i := 8) (v := ?_) rfl (by kernel_rfl) (by kernel_rfl) (by kernel_rfl) (fun _ _ _ h => h) (Or.inl ⟨by kernel_rfl, ?_⟩) (by assumption) ?_
          rotate_left
          · (intro wS hSw; (try dsimp only at hSw); go_simp <;> with_reducible rfl)
          try simp only [Act.put, List.getElem_toArray, List.getElem_cons_succ, List.getElem_cons_zero, List.setIfInBounds_toArray, List.set_cons_zero, List.set_cons_succ]
          refine wpAnyH_ready (rs := [9]) (by kernel_rfl) (by simp) (AllReadyH.cons rfl (fun K hK => ?_) AllReadyH.nil)
          go_simp
          have BSW : Hid (Below ws2.heap.size ws2 w2) := BS.out
          have BS' : Hid (Below ws2.heap.size ws2 (w2.alloc (.cells #[.slice none 0 0, .int .i64 0] 32))) := BS.out.alloc BS.out.size _
          clear BS
          have BS := BS'
          clear BS'
          have BC0' : Hid (Below wt0.heap.size wt0 (w2.alloc (.cells #[.slice none 0 0, .int .i64 0] 32))) := BC0.out.alloc BC0.out.size _
          clear BC0
          have BC0 := BC0'
          clear BC0'
          have BC2' : Hid (Below wt2.heap.size wt2 (w2.alloc (.cells #[.slice none 0 0, .int .i64 0] 32))) := BC2.out.alloc BC2.out.size _
          clear BC2
          have BC2 := BC2'
          clear BC2'
          have HZ : Hid (∀ W, Below (w2.alloc (.cells #[.slice none 0 0, .int .i64 0] 32)).heap.size (w2.alloc (.cells #[.slice none 0 0, .int .i64 0] 32)) W → W.heap[w2.heap.size]? = some (.cells #[.slice none 0 0, .int .i64 0] 32)) := fun W h => heap_keptD (heap_newD _ _) h
          have BA : Hid (Below (w2.alloc (.cells #[.slice none 0 0, .int .i64 0] 32)).heap.size (w2.alloc (.cells #[.slice none 0 0, .int .i64 0] 32)) (w2.alloc (.cells #[.slice none 0 0, .int .i64 0] 32))) := Below.refl _ _
          refine hK.out _ _ ?_ (fun hHeld => ?_)
          · (first | exact CE.out _ (HST.out _ BS.out) | exact CE.out _ (HST.out _ BS.out.drew))
          clear hK K
          try simp only [Act.put, List.getElem_toArray, List.getElem_cons_succ, List.getElem_cons_zero, List.setIfInBounds_toArray, List.set_cons_zero, List.set_cons_succ]
          refine wpAnyH_ready (rs := [10]) (by kernel_rfl) (by simp) (AllReadyH.cons rfl (fun K hK => ?_) AllReadyH.nil)
          go_simp
          have hbw2 : Below ws2.heap.size ws2 w2 := BSW.out
          have BT : Hid (Below ws2.heap.size ws2 (w2.alloc (.cells #[.slice ra R0.tables.length rc, .int .i64 R0.next] 32))) := hbw2.alloc hbw2.size _
          clear BS hbw2
          have BS := BT
          clear BT
          refine hK.out _ _ ?_ (fun hHeld => ?_)
          · (first | exact CE.out _ (HST.out _ BS.out) | exact CE.out _ (HST.out _ BS.out.drew))
          clear hK K
          try simp only [Act.put, List.getElem_toArray, List.getElem_cons_succ, List.getElem_cons_zero, List.setIfInBounds_toArray, List.set_cons_zero, List.set_cons_succ]
          refine wpAnyH_take (i := 11) (v := ?_) rfl (by kernel_rfl) (by kernel_rfl) (by kernel_rfl) (fun _ _ _ h => h) (Or.inl ⟨by kernel_rfl, ?_⟩) (by assumption) ?_
          rotate_left
          · (intro wS hSw; (try dsimp only at hSw); go_simp <;> with_reducible rfl)
          try simp only [Act.put, List.getElem_toArray, List.getElem_cons_succ, List.getElem_cons_zero, List.setIfInBounds_toArray, List.set_cons_zero, List.set_cons_succ]
          refine wpAnyH_done (by kernel_rfl) ?_ _
          have HF := Lib.hid (HST.out _ BS.out)
          go_wp2_with fail
          go_meet
          refine ⟨ra, rc, _, rfl, rfl, ⟨HF.out.1, HF.out.2.1, HF.out.2.2, heap_newD _ _, (HR2.out.later (below_allocD _ _)).mono (fun b hb => by have := hb.2; simp; omega)⟩, by have h := (Array.getElem?_eq_some_iff.1 HF.out.2.2).1; omega, by simp⟩
        ·
          go_simp
          have LO : Hid (ws2.heap.size ≤ wt2.heap.size) := BS.out.size
          have BS' : Hid (Below ws2.heap.size ws2 (wt2.alloc (.cells #[.slice none 0 0, .int .i64 0] 32))) := BS.out.alloc BS.out.size _
          clear BS
          have BS := BS'
          clear BS'
          have BC0' : Hid (Below wt0.heap.size wt0 (wt2.alloc (.cells #[.slice none 0 0, .int .i64 0] 32))) := BC0.out.alloc BC0.out.size _
          clear BC0
          have BC0 := BC0'
          clear BC0'
          have BC2' : Hid (Below wt2.heap.size wt2 (wt2.alloc (.cells #[.slice none 0 0, .int .i64 0] 32))) := BC2.out.alloc BC2.out.size _
          clear BC2
          have BC2 := BC2'
          clear BC2'
          have HZ : Hid (∀ W, Below (wt2.alloc (.cells #[.slice none 0 0, .int .i64 0] 32)).heap.size (wt2.alloc (.cells #[.slice none 0 0, .int .i64 0] 32)) W → W.heap[wt2.heap.size]? = some (.cells #[.slice none 0 0, .int .i64 0] 32)) := fun W h => heap_keptD (heap_newD _ _) h
          have BA : Hid (Below (wt2.alloc (.cells #[.slice none 0 0, .int .i64 0] 32)).heap.size (wt2.alloc (.cells #[.slice none 0 0, .int .i64 0] 32)) (wt2.alloc (.cells #[.slice none 0 0, .int .i64 0] 32))) := Below.refl _ _
          refine hK.out _ _ ?_ (fun hHeld => ?_)
          · (first | exact CE.out _ (HST.out _ BS.out) | exact CE.out _ (HST.out _ BS.out.drew))
          clear hK K
          try simp only [Act.put, List.getElem_toArray, List.getElem_cons_succ, List.getElem_cons_zero, List.setIfInBounds_toArray, List.set_cons_zero, List.set_cons_succ]
          refine wpAnyH_ready (rs := [5]) (by kernel_rfl) (by simp) (AllReadyH.cons rfl (fun K hK => ?_) AllReadyH.nil)
          go_simp
          have LT0 : Hid (wt2.heap.size < (wt2.alloc (.cells #[.slice none 0 0, .int .i64 0] 32)).heap.size) := (Array.getElem?_eq_some_iff.1 (HZ.out _ BA.out)).1
          go_at_call 7
          refine (CS.out _ _ _ _ _ (by first | exact RC0_0.out _ BC0.out | exact RC0_0.out _ BC0.out.drew) (by first | exact RC2_1.out _ BC2.out | exact RC2_1.out _ BC2.out.drew)).mono ?_
          rintro e w2 ⟨ra, rc, rfl, hr2, hB⟩
          have hb : Below (wt2.alloc (.cells #[.slice none 0 0, .int .i64 0] 32)).heap.size (wt2.alloc (.cells #[.slice none 0 0, .int .i64 0] 32)) w2 := by first | exact hB | exact (Below.refl _ _).drew.trans hB
          have BS' : Hid (Below ws2.heap.size ws2 w2) := BS.out.trans (hb.mono BS.out.size)
          clear BS
          have BS := BS'
          clear BS'
          have BC0' : Hid (Below wt0.heap.size wt0 w2) := BC0.out.trans (hb.mono BC0.out.size)
          clear BC0
          have BC0 := BC0'
          clear BC0'
          have BC2' : Hid (Below wt2.heap.size wt2 w2) := BC2.out.trans (hb.mono BC2.out.size)
          clear BC2
          have BC2 := BC2'
          clear BC2'
          have BA' : Hid (Below (wt2.alloc (.cells #[.slice none 0 0, .int .i64 0] 32)).heap.size (wt2.alloc (.cells #[.slice none 0 0, .int .i64 0] 32)) w2) := BA.out.trans (hb.mono BA.out.size)
          clear BA
          have BA := BA'
          clear BA'
          have HR2 : Hid (Rd w2 (fun b => (wt2.alloc (.cells #[.slice none 0 0, .int .i64 0] 32)).heap.size ≤ b ∧ b < w2.heap.size) (dRowSS R0.tables) (.slice ra R0.tables.length rc)) := by first | exact hr2 | (simpa using hr2)
          clear hb hB hr2
          refine hK.out _ _ ?_ (fun hHeld => ?_)
          · (first | exact CE.out _ (HST.out _ BS.out) | exact CE.out _ (HST.out _ BS.out.drew))
          clear hK K
          try simp only [Act.put, List.getElem_toArray, List.getElem_cons_succ, List.getElem_cons_zero, List.setIfInBounds_toArray, List.set_cons_zero, List.set_cons_succ]
          refine wpAnyH_take (i := 6) (v := ?_) rfl (by kernel_rfl) (by kernel_rfl) (by kernel_rfl) (fun _ _ _ h => h) (Or.inl ⟨by kernel_rfl, ?_⟩) (by assumption) ?_
          rotate_left
          · (intro wS hSw; (try dsimp only at hSw); go_simp <;> with_reducible rfl)
          try simp only [Act.put, List.getElem_toArray, List.getElem_cons_succ, List.getElem_cons_zero, List.setIfInBounds_toArray, List.set_cons_zero, List.set_cons_succ]
          refine wpAnyH_take (i := 7) (v := ?_) rfl (by kernel_rfl) (by kernel_rfl) (by kernel_rfl) (fun _ _ _ h => h) (Or.inl ⟨by kernel_rfl, ?_⟩) (by assumption) ?_
          rotate_left
          · (intro wS hSw; (try dsimp only at hSw); go_simp <;> with_reducible rfl)
          try simp only [Act.put, List.getElem_toArray, List.getElem_cons_succ, List.getElem_cons_zero, List.setIfInBounds_toArray, List.set_cons_zero, List.set_cons_succ]
          refine wpAnyH_take (i := 8) (v := ?_) rfl (by kernel_rfl) (by kernel_rfl) (by kernel_rfl) (fun _ _ _ h => h) (Or.inl ⟨by kernel_rfl, ?_⟩) (by assumption) ?_
          rotate_left
          · (intro wS hSw; (try dsimp only at hSw); go_simp <;> with_reducible rfl)
          try simp only [Act.put, List.getElem_toArray, List.getElem_cons_succ, List.getElem_cons_zero, List.setIfInBounds_toArray, List.set_cons_zero, List.set_cons_succ]
          refine wpAnyH_ready (rs := [10]) (by kernel_rfl) (by simp) (AllReadyH.cons rfl (fun K hK => ?_) AllReadyH.nil)
          have zc0 := cell_at (o := 0) (HZ.out _ BA.out) rfl
          have zf0 := frozen_at 0 (HZ.out _ BA.out)
          have zc1 := cell_at (o := 1) (HZ.out _ BA.out) rfl
          have zf1 := frozen_at 1 (HZ.out _ BA.out)
          go_simp
          clear zc0 zf0 zc1 zf1
          have hlo : ws2.heap.size ≤ wt2.heap.size := LO.out
          have BT : Hid (Below ws2.heap.size ws2 ((w2.setCell ⟨wt2.heap.size, 0, none⟩ (.slice ra R0.tables.length rc)).setCell ⟨wt2.heap.size, 1, none⟩ (.int .i64 R0.next))) := ((BS.out.setCell (by first | exact hlo | (show _ ≤ _; exact hlo)) _).setCell (by first | exact hlo | (show _ ≤ _; exact hlo)) _)
          clear BS hlo
          have BS := BT
          clear BT
          refine hK.out _ _ ?_ (fun hHeld => ?_)
          · (first | exact CE.out _ (HST.out _ BS.out) | exact CE.out _ (HST.out _ BS.out.drew))
          clear hK K
          try simp only [Act.put, List.getElem_toArray, List.getElem_cons_succ, List.getElem_cons_zero, List.setIfInBounds_toArray, List.set_cons_zero, List.set_cons_succ]
          refine wpAnyH_take (i := 11) (v := ?_) rfl (by kernel_rfl) (by kernel_rfl) (by kernel_rfl) (fun _ _ _ h => h) (Or.inl ⟨by kernel_rfl, ?_⟩) (by assumption) ?_
          rotate_left
          · (intro wS hSw; (try dsimp only at hSw); go_simp <;> with_reducible rfl)
          try simp only [Act.put, List.getElem_toArray, List.getElem_cons_succ, List.getElem_cons_zero, List.setIfInBounds_toArray, List.set_cons_zero, List.set_cons_succ]
          refine wpAnyH_done (by kernel_rfl) ?_ _
          have HF := Lib.hid (HST.out _ BS.out)
          go_wp2_with fail
          go_meet
          refine ⟨ra, rc, _, rfl, rfl, ⟨HF.out.1, HF.out.2.1, HF.out.2.2, heap_set 1 _ (heap_set 0 _ (HZ.out _ BA.out)), (HR2.out.frm (F := (· = wt2.heap.size)) ((frm_set _ _ _ _).trans (frm_set _ _ _ _)) (fun b hb e => by have e' : b = wt2.heap.size := e; have h1 := hb.1; have h2 := LT0.out; omega)).mono (fun b hb => by have := hb.2; simpa using this)⟩, by have h := (Array.getElem?_eq_some_iff.1 HF.out.2.2).1; omega, (Array.getElem?_eq_some_iff.1 (heap_set 1 _ (heap_set 0 _ (HZ.out _ BA.out)))).1⟩
      ·
        go_simp
        have LO : Hid (ws2.heap.size ≤ wt0.heap.size) := BS.out.size
        have BS' : Hid (Below ws2.heap.size ws2 (wt0.alloc (.cells #[.slice none 0 0, .int .i64 0] 32))) := BS.out.alloc BS.out.size _
        clear BS
        have BS := BS'
        clear BS'
        have BC0' : Hid (Below wt0.heap.size wt0 (wt0.alloc (.cells #[.slice none 0 0, .int .i64 0] 32))) := BC0.out.alloc BC0.out.size _
        clear BC0
        have BC0 := BC0'
        clear BC0'
        have HZ : Hid (∀ W, Below (wt0.alloc (.cells #[.slice none 0 0, .int .i64 0] 32)).heap.size (wt0.alloc (.cells #[.slice none 0 0, .int .i64 0] 32)) W → W.heap[wt0.heap.size]? = some (.cells #[.slice none 0 0, .int .i64 0] 32)) := fun W h => heap_keptD (heap_newD _ _) h
        have BA : Hid (Below (wt0.alloc (.cells #[.slice none 0 0, .int .i64 0] 32)).heap.size (wt0.alloc (.cells #[.slice none 0 0, .int .i64 0] 32)) (wt0.alloc (.cells #[.slice none 0 0, .int .i64 0] 32))) := Below.refl _ _
        refine hK.out _ _ ?_ (fun hHeld => ?_)
        · (first | exact CE.out _ (HST.out _ BS.out) | exact CE.out _ (HST.out _ BS.out.drew))
        clear hK K
        try simp only [Act.put, List.getElem_toArray, List.getElem_cons_succ, List.getElem_cons_zero, List.setIfInBounds_toArray, List.set_cons_zero, List.set_cons_succ]
        refine wpAnyH_ready (rs := [4]) (by kernel_rfl) (by simp) (AllReadyH.cons rfl (fun K hK => ?_) AllReadyH.nil)
        go_simp
        go_at_call 9
        refine (TO2.out _ (by first | exact HSX.out _ (HST.out _ BS.out) | exact HSX.out _ (HST.out _ BS.out.drew))).mono ?_
        rintro e wt2 ⟨p2_1, rfl, ho, hB, -⟩
        have hb : Below (wt0.alloc (.cells #[.slice none 0 0, .int .i64 0] 32)).heap.size (wt0.alloc (.cells #[.slice none 0 0, .int .i64 0] 32)) wt2 := by first | exact hB | exact (Below.refl _ _).drew.trans hB
        have BS' : Hid (Below ws2.heap.size ws2 wt2) := BS.out.trans (hb.mono BS.out.size)
        clear BS
        have BS := BS'
        clear BS'
        have BC0' : Hid (Below wt0.heap.size wt0 wt2) := BC0.out.trans (hb.mono BC0.out.size)
        clear BC0
        have BC0 := BC0'
        clear BC0'
        have BA' : Hid (Below (wt0.alloc (.cells #[.slice none 0 0, .int .i64 0] 32)).heap.size (wt0.alloc (.cells #[.slice none 0 0, .int .i64 0] 32)) wt2) := BA.out.trans (hb.mono BA.out.size)
        clear BA
        have BA := BA'
        clear BA'
        have RC2_1 : Hid (∀ W, Below wt2.heap.size wt2 W → Rd W (fun _ => True) (dAtomSS x2.cells) (.slice (some ⟨p2_1, 0, none⟩) x2.cells.length x2.cells.length)) := fun W h => Rd.later ((Owns.one ho (j := 1) (by omega)).rd'.any) h
        have BC2 : Hid (Below wt2.heap.size wt2 wt2) := Below.refl _ _
        clear hb hB ho
        refine hK.out _ _ ?_ (fun hHeld => ?_)
        · (first | exact CE.out _ (HST.out _ BS.out) | exact CE.out _ (HST.out _ BS.out.drew))
        clear hK K
        try simp only [Act.put, List.getElem_toArray, List.getElem_cons_succ, List.getElem_cons_zero, List.setIfInBounds_toArray, List.set_cons_zero, List.set_cons_succ]
        refine wpAnyH_ready (rs := [5]) (by kernel_rfl) (by simp) (AllReadyH.cons rfl (fun K hK => ?_) AllReadyH.nil)
        go_simp
        have LT0 : Hid (wt0.heap.size < wt2.heap.size) := (Array.getElem?_eq_some_iff.1 (HZ.out _ BA.out)).1
        go_at_call 7
        refine (CS.out _ _ _ _ _ (by first | exact RC0_0.out _ BC0.out | exact RC0_0.out _ BC0.out.drew) (by first | exact RC2_1.out _ BC2.out | exact RC2_1.out _ BC2.out.drew)).mono ?_
        rintro e w2 ⟨ra, rc, rfl, hr2, hB⟩
        have hb : Below wt2.heap.size wt2 w2 := by first | exact hB | exact (Below.refl _ _).drew.trans hB
        have BS' : Hid (Below ws2.heap.size ws2 w2) := BS.out.trans (hb.mono BS.out.size)
        clear BS
        have BS := BS'
        clear BS'
        have BC0' : Hid (Below wt0.heap.size wt0 w2) := BC0.out.trans (hb.mono BC0.out.size)
        clear BC0
        have BC0 := BC0'
        clear BC0'
        have BA' : Hid (Below (wt0.alloc (.cells #[.slice none 0 0, .int .i64 0] 32)).heap.size (wt0.alloc (.cells #[.slice none 0 0, .int .i64 0] 32)) w2) := BA.out.trans (hb.mono BA.out.size)
        clear BA
        have BA := BA'
        clear BA'
        have BC2' : Hid (Below wt2.heap.size wt2 w2) := BC2.out.trans (hb.mono BC2.out.size)
        clear BC2
        have BC2 := BC2'
        clear BC2'
        have HR2 : Hid (Rd w2 (fun b => wt2.heap.size ≤ b ∧ b < w2.heap.size) (dRowSS R0.tables) (.slice ra R0.tables.length rc)) := by first | exact hr2 | (simpa using hr2)
        clear hb hB hr2
        refine hK.out _ _ ?_ (fun hHeld => ?_)
        · (first | exact CE.out _ (HST.out _ BS.out) | exact CE.out _ (HST.out _ BS.out.drew))
        clear hK K
        try simp only [Act.put, List.getElem_toArray, List.getElem_cons_succ, List.getElem_cons_zero, List.setIfInBounds_toArray, List.set_cons_zero, List.set_cons_succ]
        refine wpAnyH_take (i := 6) (v := ?_) rfl (by kernel_rfl) (by kernel_rfl) (by kernel_rfl) (fun _ _ _ h => h) (Or.inl ⟨by kernel_rfl, ?_⟩) (by assumption) ?_
        rotate_left
        · (intro wS hSw; (try dsimp only at hSw); go_simp <;> with_reducible rfl)
        try simp only [Act.put, List.getElem_toArray, List.getElem_cons_succ, List.getElem_cons_zero, List.setIfInBounds_toArray, List.set_cons_zero, List.set_cons_succ]
        refine wpAnyH_take (i := 7) (v := ?_) rfl (by kernel_rfl) (by kernel_rfl) (by kernel_rfl) (fun _ _ _ h => h) (Or.inl ⟨by kernel_rfl, ?_⟩) (by assumption) ?_
        rotate_left
        · (intro wS hSw; (try dsimp only at hSw); go_simp <;> with_reducible rfl)
        try simp only [Act.put, List.getElem_toArray, List.getElem_cons_succ, List.getElem_cons_zero, List.setIfInBounds_toArray, List.set_cons_zero, List.set_cons_succ]
        refine wpAnyH_take (i := 8) (v := ?_) rfl (by kernel_rfl) (by kernel_rfl) (by kernel_rfl) (fun _ _ _ h => h) (Or.inl ⟨by kernel_rfl, ?_⟩) (by assumption) ?_
        rotate_left
        · (intro wS hSw; (try dsimp only at hSw); go_simp <;> with_reducible rfl)
        try simp only [Act.put, List.getElem_toArray, List.getElem_cons_succ, List.getElem_cons_zero, List.setIfInBounds_toArray, List.set_cons_zero, List.set_cons_succ]
        refine wpAnyH_ready (rs := [10]) (by kernel_rfl) (by simp) (AllReadyH.cons rfl (fun K hK => ?_) AllReadyH.nil)
        have zc0 := cell_at (o := 0) (HZ.out _ BA.out) rfl
        have zf0 := frozen_at 0 (HZ.out _ BA.out)
        have zc1 := cell_at (o := 1) (HZ.out _ BA.out) rfl
        have zf1 := frozen_at 1 (HZ.out _ BA.out)
        go_simp
        clear zc0 zf0 zc1 zf1
        have hlo : ws2.heap.size ≤ wt0.heap.size := LO.out
        have BT : Hid (Below ws2.heap.size ws2 ((w2.setCell ⟨wt0.heap.size, 0, none⟩ (.slice ra R0.tables.length rc)).setCell ⟨wt0.heap.size, 1, none⟩ (.int .i64 R0.next))) := ((BS.out.setCell (by first | exact hlo | (show _ ≤ _; exact hlo)) _).setCell (by first | exact hlo | (show _ ≤ _; exact hlo)) _)
        clear BS hlo
        have BS := BT
        clear BT
        refine hK.out _ _ ?_ (fun hHeld => ?_)
        · (first | exact CE.out _ (HST.out _ BS.out) | exact CE.out _ (HST.out _ BS.out.drew))
        clear hK K
        try simp only [Act.put, List.getElem_toArray, List.getElem_cons_succ, List.getElem_cons_zero, List.setIfInBounds_toArray, List.set_cons_zero, List.set_cons_succ]
        refine wpAnyH_take (i := 11) (v := ?_) rfl (by kernel_rfl) (by kernel_rfl) (by kernel_rfl) (fun _ _ _ h => h) (Or.inl ⟨by kernel_rfl, ?_⟩) (by assumption) ?_
        rotate_left
        · (intro wS hSw; (try dsimp only at hSw); go_simp <;> with_reducible rfl)
        try simp only [Act.put, List.getElem_toArray, List.getElem_cons_succ, List.getElem_cons_zero, List.setIfInBounds_toArray, List.set_cons_zero, List.set_cons_succ]
        refine wpAnyH_done (by kernel_rfl) ?_ _
        have HF := Lib.hid (HST.out _ BS.out)
        go_wp2_with fail
        go_meet
        refine ⟨ra, rc, _, rfl, rfl, ⟨HF.out.1, HF.out.2.1, HF.out.2.2, heap_set 1 _ (heap_set 0 _ (HZ.out _ BA.out)), (HR2.out.frm (F := (· = wt0.heap.size)) ((frm_set _ _ _ _).trans (frm_set _ _ _ _)) (fun b hb e => by have e' : b = wt0.heap.size := e; have h1 := hb.1; have h2 := LT0.out; omega)).mono (fun b hb => by have := hb.2; simpa using this)⟩, by have h := (Array.getElem?_eq_some_iff.1 HF.out.2.2).1; omega, (Array.getElem?_eq_some_iff.1 (heap_set 1 _ (heap_set 0 _ (HZ.out _ BA.out)))).1⟩
    ·
      go_simp
      have LO : Hid (ws2.heap.size ≤ ws2.heap.size) := BS.out.size
      have BS' : Hid (Below ws2.heap.size ws2 (ws2.alloc (.cells #[.slice none 0 0, .int .i64 0] 32))) := BS.out.alloc BS.out.size _
      clear BS
      have BS := BS'
      clear BS'
      have HZ : Hid (∀ W, Below (ws2.alloc (.cells #[.slice none 0 0, .int .i64 0] 32)).heap.size (ws2.alloc (.cells #[.slice none 0 0, .int .i64 0] 32)) W → W.heap[ws2.heap.size]? = some (.cells #[.slice none 0 0, .int .i64 0] 32)) := fun W h => heap_keptD (heap_newD _ _) h
      have BA : Hid (Below (ws2.alloc (.cells #[.slice none 0 0, .int .i64 0] 32)).heap.size (ws2.alloc (.cells #[.slice none 0 0, .int .i64 0] 32)) (ws2.alloc (.cells #[.slice none 0 0, .int .i64 0] 32))) := Below.refl _ _
      refine hK.out _ _ ?_ (fun hHeld => ?_)
      · (first | exact CE.out _ (HST.out _ BS.out) | exact CE.out _ (HST.out _ BS.out.drew))
      clear hK K
      try simp only [Act.put, List.getElem_toArray, List.getElem_cons_succ, List.getElem_cons_zero, List.setIfInBounds_toArray, List.set_cons_zero, List.set_cons_succ]
      refine wpAnyH_ready (rs := [1]) (by kernel_rfl) (by simp) (AllReadyH.cons rfl (fun K hK => ?_) AllReadyH.nil)
      go_simp
      go_at_call 8
      refine (TO0.out _ (by first | exact HSX.out _ (HST.out _ BS.out) | exact HSX.out _ (HST.out _ BS.out.drew))).mono ?_
      rintro e wt0 ⟨p0_0, rfl, ho, hB, -⟩
      have hb : Below (ws2.alloc (.cells #[.slice none 0 0, .int .i64 0] 32)).heap.size (ws2.alloc (.cells #[.slice none 0 0, .int .i64 0] 32)) wt0 := by first | exact hB | exact (Below.refl _ _).drew.trans hB
      have BS' : Hid (Below ws2.heap.size ws2 wt0) := BS.out.trans (hb.mono BS.out.size)
      clear BS
      have BS := BS'
      clear BS'
      have BA' : Hid (Below (ws2.alloc (.cells #[.slice none 0 0, .int .i64 0] 32)).heap.size (ws2.alloc (.cells #[.slice none 0 0, .int .i64 0] 32)) wt0) := BA.out.trans (hb.mono BA.out.size)
      clear BA
      have BA := BA'
      clear BA'
      have RC0_0 : Hid (∀ W, Below wt0.heap.size wt0 W → Rd W (fun _ => True) (dRowSS x0.tables) (.slice (some ⟨p0_0, 0, none⟩) x0.tables.length x0.tables.length)) := fun W h => Rd.later ((Owns.one ho (j := 0) (by omega)).rd'.any) h
      have BC0 : Hid (Below wt0.heap.size wt0 wt0) := Below.refl _ _
      clear hb hB ho
      refine hK.out _ _ ?_ (fun hHeld => ?_)
      · (first | exact CE.out _ (HST.out _ BS.out) | exact CE.out _ (HST.out _ BS.out.drew))
      clear hK K
      try simp only [Act.put, List.getElem_toArray, List.getElem_cons_succ, List.getElem_cons_zero, List.setIfInBounds_toArray, List.set_cons_zero, List.set_cons_succ]
      refine wpAnyH_ready (rs := [4]) (by kernel_rfl) (by simp) (AllReadyH.cons rfl (fun K hK => ?_) AllReadyH.nil)
      go_simp
      go_at_call 9
      refine (TO2.out _ (by first | exact HSX.out _ (HST.out _ BS.out) | exact HSX.out _ (HST.out _ BS.out.drew))).mono ?_
      rintro e wt2 ⟨p2_1, rfl, ho, hB, -⟩
      have hb : Below wt0.heap.size wt0 wt2 := by first | exact hB | exact (Below.refl _ _).drew.trans hB
      have BS' : Hid (Below ws2.heap.size ws2 wt2) := BS.out.trans (hb.mono BS.out.size)
      clear BS
      have BS := BS'
      clear BS'
      have BA' : Hid (Below (ws2.alloc (.cells #[.slice none 0 0, .int .i64 0] 32)).heap.size (ws2.alloc (.cells #[.slice none 0 0, .int .i64 0] 32)) wt2) := BA.out.trans (hb.mono BA.out.size)
      clear BA
      have BA := BA'
      clear BA'
      have BC0' : Hid (Below wt0.heap.size wt0 wt2) := BC0.out.trans (hb.mono BC0.out.size)
      clear BC0
      have BC0 := BC0'
      clear BC0'
      have RC2_1 : Hid (∀ W, Below wt2.heap.size wt2 W → Rd W (fun _ => True) (dAtomSS x2.cells) (.slice (some ⟨p2_1, 0, none⟩) x2.cells.length x2.cells.length)) := fun W h => Rd.later ((Owns.one ho (j := 1) (by omega)).rd'.any) h
      have BC2 : Hid (Below wt2.heap.size wt2 wt2) := Below.refl _ _
      clear hb hB ho
      refine hK.out _ _ ?_ (fun hHeld => ?_)
      · (first | exact CE.out _ (HST.out _ BS.out) | exact CE.out _ (HST.out _ BS.out.drew))
      clear hK K
      try simp only [Act.put, List.getElem_toArray, List.getElem_cons_succ, List.getElem_cons_zero, List.setIfInBounds_toArray, List.set_cons_zero, List.set_cons_succ]
      refine wpAnyH_ready (rs := [5]) (by kernel_rfl) (by simp) (AllReadyH.cons rfl (fun K hK => ?_) AllReadyH.nil)
      go_simp
      have LT0 : Hid (ws2.heap.size < wt2.heap.size) := (Array.getElem?_eq_some_iff.1 (HZ.out _ BA.out)).1
      go_at_call 7
      refine (CS.out _ _ _ _ _ (by first | exact RC0_0.out _ BC0.out | exact RC0_0.out _ BC0.out.drew) (by first | exact RC2_1.out _ BC2.out | exact RC2_1.out _ BC2.out.drew)).mono ?_
      rintro e w2 ⟨ra, rc, rfl, hr2, hB⟩
      have hb : Below wt2.heap.size wt2 w2 := by first | exact hB | exact (Below.refl _ _).drew.trans hB
      have BS' : Hid (Below ws2.heap.size ws2 w2) := BS.out.trans (hb.mono BS.out.size)
      clear BS
      have BS := BS'
      clear BS'
      have BA' : Hid (Below (ws2.alloc (.cells #[.slice none 0 0, .int .i64 0] 32)).heap.size (ws2.alloc (.cells #[.slice none 0 0, .int .i64 0] 32)) w2) := BA.out.trans (hb.mono BA.out.size)
      clear BA
      have BA := BA'
      clear BA'
      have BC0' : Hid (Below wt0.heap.size wt0 w2) := BC0.out.trans (hb.mono BC0.out.size)
      clear BC0
      have BC0 := BC0'
      clear BC0'
      have BC2' : Hid (Below wt2.heap.size wt2 w2) := BC2.out.trans (hb.mono BC2.out.size)
      clear BC2
      have BC2 := BC2'
      clear BC2'
      have HR2 : Hid (Rd w2 (fun b => wt2.heap.size ≤ b ∧ b < w2.heap.size) (dRowSS R0.tables) (.slice ra R0.tables.length rc)) := by first | exact hr2 | (simpa using hr2)
      clear hb hB hr2
      refine hK.out _ _ ?_ (fun hHeld => ?_)
      · (first | exact CE.out _ (HST.out _ BS.out) | exact CE.out _ (HST.out _ BS.out.drew))
      clear hK K
      try simp only [Act.put, List.getElem_toArray, List.getElem_cons_succ, List.getElem_cons_zero, List.setIfInBounds_toArray, List.set_cons_zero, List.set_cons_succ]
      refine wpAnyH_take (i := 6) (v := ?_) rfl (by kernel_rfl) (by kernel_rfl) (by kernel_rfl) (fun _ _ _ h => h) (Or.inl ⟨by kernel_rfl, ?_⟩) (by assumption) ?_
      rotate_left
      · (intro wS hSw; (try dsimp only at hSw); go_simp <;> with_reducible rfl)
      try simp only [Act.put, List.getElem_toArray, List.getElem_cons_succ, List.getElem_cons_zero, List.setIfInBounds_toArray, List.set_cons_zero, List.set_cons_succ]
      refine wpAnyH_take (i := 7) (v := ?_) rfl (by kernel_rfl) (by kernel_rfl) (by kernel_rfl) (fun _ _ _ h => h) (Or.inl ⟨by kernel_rfl, ?_⟩) (by assumption) ?_
      rotate_left
      · (intro wS hSw; (try dsimp only at hSw); go_simp <;> with_reducible rfl)
      try simp only [Act.put, List.getElem_toArray, List.getElem_cons_succ, List.getElem_cons_zero, List.setIfInBounds_toArray, List.set_cons_zero, List.set_cons_succ]
      refine wpAnyH_take (i := 8) (v := ?_) rfl (by kernel_rfl) (by kernel_rfl) (by kernel_rfl) (fun _ _ _ h => h) (Or.inl ⟨by kernel_rfl, ?_⟩) (by assumption) ?_
      rotate_left
      · (intro wS hSw; (try dsimp only at hSw); go_simp <;> with_reducible rfl)
      try simp only [Act.put, List.getElem_toArray, List.getElem_cons_succ, List.getElem_cons_zero, List.setIfInBounds_toArray, List.set_cons_zero, List.set_cons_succ]
      refine wpAnyH_ready (rs := [10]) (by kernel_rfl) (by simp) (AllReadyH.cons rfl (fun K hK => ?_) AllReadyH.nil)
      have zc0 := cell_at (o := 0) (HZ.out _ BA.out) rfl
      have zf0 := frozen_at 0 (HZ.out _ BA.out)
      have zc1 := cell_at (o := 1) (HZ.out _ BA.out) rfl
      have zf1 := frozen_at 1 (HZ.out _ BA.out)
      go_simp
      clear zc0 zf0 zc1 zf1
      have hlo : ws2.heap.size ≤ ws2.heap.size := LO.out
      have BT : Hid (Below ws2.heap.size ws2 ((w2.setCell ⟨ws2.heap.size, 0, none⟩ (.slice ra R0.tables.length rc)).setCell ⟨ws2.heap.size, 1, none⟩ (.int .i64 R0.next))) := ((BS.out.setCell (by first | exact hlo | (show _ ≤ _; exact hlo)) _).setCell (by first | exact hlo | (show _ ≤ _; exact hlo)) _)
      clear BS hlo
      have BS := BT
      clear BT
      refine hK.out _ _ ?_ (fun hHeld => ?_)
      · (first | exact CE.out _ (HST.out _ BS.out) | exact CE.out _ (HST.out _ BS.out.drew))
      clear hK K
      try simp only [Act.put, List.getElem_toArray, List.getElem_cons_succ, List.getElem_cons_zero, List.setIfInBounds_toArray, List.set_cons_zero, List.set_cons_succ]
      refine wpAnyH_take (i := 11) (v := ?_) rfl (by kernel_rfl) (by kernel_rfl) (by kernel_rfl) (fun _ _ _ h => h) (Or.inl ⟨by kernel_rfl, ?_⟩) (by assumption) ?_
      rotate_left
      · (intro wS hSw; (try dsimp only at hSw); go_simp <;> with_reducible rfl)
      try simp only [Act.put, List.getElem_toArray, List.getElem_cons_succ, List.getElem_cons_zero, List.setIfInBounds_toArray, List.set_cons_zero, List.set_cons_succ]
      refine wpAnyH_done (by kernel_rfl) ?_ _
      have HF := Lib.hid (HST.out _ BS.out)
      go_wp2_with fail
      go_meet
      refine ⟨ra, rc, _, rfl, rfl, ⟨HF.out.1, HF.out.2.1, HF.out.2.2, heap_set 1 _ (heap_set 0 _ (HZ.out _ BA.out)), (HR2.out.frm (F := (· = ws2.heap.size)) ((frm_set _ _ _ _).trans (frm_set _ _ _ _)) (fun b hb e => by have e' : b = ws2.heap.size := e; have h1 := hb.1; have h2 := LT0.out; omega)).mono (fun b hb => by have := hb.2; simpa using this)⟩, by have h := (Array.getElem?_eq_some_iff.1 HF.out.2.2).1; omega, (Array.getElem?_eq_some_iff.1 (heap_set 1 _ (heap_set 0 _ (HZ.out _ BA.out)))).1⟩
  clear HST CE HSX
  obtain ⟨ra, rc, b0, rfl, rfl, HCUT⟩ := hcut
  have M0 : Hid (Below w.heap.size w wc ∧ wc.heap[w.heap.size]? = some (.cells #[.slice a0_0 x0.tables.length c0_0, .int .i64 x0.next] 24) ∧ wc.heap[w.heap.size + 1]? = some (.cells #[.int .i64 x2.id, .slice a2_1 x2.cells.length c2_1] 27) ∧ wc.heap[b0]? = some (.cells #[.slice ra R0.tables.length rc, .int .i64 R0.next] 32) ∧ Rd wc (· < wc.heap.size) (dRowSS R0.tables) (.slice ra R0.tables.length rc)) := HCUT.out.1
  have O0 : Hid (w.heap.size + 2 ≤ wc.heap.size ∧ b0 < wc.heap.size) := HCUT.out.2
  clear HCUT
  have S0L : Hid (∀ W W', (Below w.heap.size w W ∧ W.heap[w.heap.size]? = some (.cells #[.slice a0_0 x0.tables.length c0_0, .int .i64 x0.next] 24) ∧ W.heap[w.heap.size + 1]? = some (.cells #[.int .i64 x2.id, .slice a2_1 x2.cells.length c2_1] 27) ∧ W.heap[b0]? = some (.cells #[.slice ra R0.tables.length rc, .int .i64 R0.next] 32) ∧ Rd W (· < wc.heap.size) (dRowSS R0.tables) (.slice ra R0.tables.length rc)) → Below W.heap.size W W' → (Below w.heap.size w W' ∧ W'.heap[w.heap.size]? = some (.cells #[.slice a0_0 x0.tables.length c0_0, .int .i64 x0.next] 24) ∧ W'.heap[w.heap.size + 1]? = some (.cells #[.int .i64 x2.id, .slice a2_1 x2.cells.length c2_1] 27) ∧ W'.heap[b0]? = some (.cells #[.slice ra R0.tables.length rc, .int .i64 R0.next] 32) ∧ Rd W' (· < wc.heap.size) (dRowSS R0.tables) (.slice ra R0.tables.length rc))) := fun W W' h hB => ⟨h.1.trans (hB.mono h.1.size), heap_keptD h.2.1 hB, heap_keptD h.2.2.1 hB, heap_keptD h.2.2.2.1 hB, h.2.2.2.2.later hB⟩
  have f_arg0_0 := cell_at (o := 0) M0.out.2.1 rfl
  have f_arg0_1 := cell_at (o := 1) M0.out.2.1 rfl
  have f_arg2_0 := cell_at (o := 0) M0.out.2.2.1 rfl
  have f_arg2_1 := cell_at (o := 1) M0.out.2.2.1 rfl
  have f_w0_0 := cell_at (o := 0) M0.out.2.2.2.1 rfl
  have f_w0_1 := cell_at (o := 1) M0.out.2.2.2.1 rfl
  go_wp2_with fail
  refine (TO0.out _ ⟨M0.out.1, M0.out.2.1, M0.out.2.2.1⟩).mono ?_
  rintro e wx0 ⟨p0_0, rfl, ho, hB, -⟩
  have hm := S0L.out _ _ M0.out hB
  obtain ⟨u0, hu0⟩ : ∃ u, u = wc.heap.size := ⟨_, rfl⟩
  have U0 : Hid (wc.heap.size ≤ u0 ∧ u0 ≤ wx0.heap.size) := by refine ⟨by first | omega | (rw [hu0]), by rw [hu0]; exact hB.size⟩
  rw [← hu0] at ho
  have S1L : Hid (∀ W W', (Below w.heap.size w W ∧ W.heap[w.heap.size]? = some (.cells #[.slice a0_0 x0.tables.length c0_0, .int .i64 x0.next] 24) ∧ W.heap[w.heap.size + 1]? = some (.cells #[.int .i64 x2.id, .slice a2_1 x2.cells.length c2_1] 27) ∧ W.heap[b0]? = some (.cells #[.slice ra R0.tables.length rc, .int .i64 R0.next] 32) ∧ Rd W (· < wc.heap.size) (dRowSS R0.tables) (.slice ra R0.tables.length rc) ∧ W.heap[wx0.heap.size]? = some (.cells #[.slice (some ⟨p0_0, 0, none⟩) x0.tables.length x0.tables.length, .int .i64 x0.next] 32) ∧ Own W (dRowSS x0.tables) (fun c => u0 ≤ c ∧ c < wx0.heap.size) (.slice (some ⟨p0_0, 0, none⟩) x0.tables.length x0.tables.length)) → Below W.heap.size W W' → (Below w.heap.size w W' ∧ W'.heap[w.heap.size]? = some (.cells #[.slice a0_0 x0.tables.length c0_0, .int .i64 x0.next] 24) ∧ W'.heap[w.heap.size + 1]? = some (.cells #[.int .i64 x2.id, .slice a2_1 x2.cells.length c2_1] 27) ∧ W'.heap[b0]? = some (.cells #[.slice ra R0.tables.length rc, .int .i64 R0.next] 32) ∧ Rd W' (· < wc.heap.size) (dRowSS R0.tables) (.slice ra R0.tables.length rc) ∧ W'.heap[wx0.heap.size]? = some (.cells #[.slice (some ⟨p0_0, 0, none⟩) x0.tables.length x0.tables.length, .int .i64 x0.next] 32) ∧ Own W' (dRowSS x0.tables) (fun c => u0 ≤ c ∧ c < wx0.heap.size) (.slice (some ⟨p0_0, 0, none⟩) x0.tables.length x0.tables.length))) := fun W W' h hB => ⟨h.1.trans (hB.mono h.1.size), heap_keptD h.2.1 hB, heap_keptD h.2.2.1 hB, heap_keptD h.2.2.2.1 hB, h.2.2.2.2.1.later hB, heap_keptD h.2.2.2.2.2.1 hB, h.2.2.2.2.2.2.later hB⟩
  have M1 : Hid (Below w.heap.size w (wx0.alloc (.cells #[.slice (some ⟨p0_0, 0, none⟩) x0.tables.length x0.tables.length, .int .i64 x0.next] 32)) ∧ (wx0.alloc (.cells #[.slice (some ⟨p0_0, 0, none⟩) x0.tables.length x0.tables.length, .int .i64 x0.next] 32)).heap[w.heap.size]? = some (.cells #[.slice a0_0 x0.tables.length c0_0, .int .i64 x0.next] 24) ∧ (wx0.alloc (.cells #[.slice (some ⟨p0_0, 0, none⟩) x0.tables.length x0.tables.length, .int .i64 x0.next] 32)).heap[w.heap.size + 1]? = some (.cells #[.int .i64 x2.id, .slice a2_1 x2.cells.length c2_1] 27) ∧ (wx0.alloc (.cells #[.slice (some ⟨p0_0, 0, none⟩) x0.tables.length x0.tables.length, .int .i64 x0.next] 32)).heap[b0]? = some (.cells #[.slice ra R0.tables.length rc, .int .i64 R0.next] 32) ∧ Rd (wx0.alloc (.cells #[.slice (some ⟨p0_0, 0, none⟩) x0.tables.length x0.tables.length, .int .i64 x0.next] 32)) (· < wc.heap.size) (dRowSS R0.tables) (.slice ra R0.tables.length rc) ∧ (wx0.alloc (.cells #[.slice (some ⟨p0_0, 0, none⟩) x0.tables.length x0.tables.length, .int .i64 x0.next] 32)).heap[wx0.heap.size]? = some (.cells #[.slice (some ⟨p0_0, 0, none⟩) x0.tables.length x0.tables.length, .int .i64 x0.next] 32) ∧ Own (wx0.alloc (.cells #[.slice (some ⟨p0_0, 0, none⟩) x0.tables.length x0.tables.length, .int .i64 x0.next] 32)) (dRowSS x0.tables) (fun c => u0 ≤ c ∧ c < wx0.heap.size) (.slice (some ⟨p0_0, 0, none⟩) x0.tables.length x0.tables.length)) := ⟨hm.1.trans ((below_allocD _ _).mono hm.1.size), heap_keptD hm.2.1 (below_allocD _ _), heap_keptD hm.2.2.1 (below_allocD _ _), heap_keptD hm.2.2.2.1 (below_allocD _ _), hm.2.2.2.2.later (below_allocD _ _), heap_newD _ _, (Owns.one ho (j := 0) (by omega)).later (below_allocD _ _)⟩
  clear f_arg0_0 f_arg0_1 f_arg2_0 f_arg2_1 f_w0_0 f_w0_1
  clear hm hB ho hu0 M0
  have f_arg0_0 := cell_at (o := 0) M1.out.2.1 rfl
  have f_arg0_1 := cell_at (o := 1) M1.out.2.1 rfl
  have f_arg2_0 := cell_at (o := 0) M1.out.2.2.1 rfl
  have f_arg2_1 := cell_at (o := 1) M1.out.2.2.1 rfl
  have f_w0_0 := cell_at (o := 0) M1.out.2.2.2.1 rfl
  have f_w0_1 := cell_at (o := 1) M1.out.2.2.2.1 rfl
  have f_x0_0 := cell_at (o := 0) M1.out.2.2.2.2.2.1 rfl
  have f_x0_1 := cell_at (o := 1) M1.out.2.2.2.2.2.1 rfl
  go_wp2_with fail
  refine (TO2.out _ ⟨M1.out.1, M1.out.2.1, M1.out.2.2.1⟩).mono ?_
  rintro e wx2 ⟨p2_1, rfl, ho, hB, -⟩
  have hm := S1L.out _ _ M1.out hB
  obtain ⟨u2, hu2⟩ : ∃ u, u = (wx0.alloc (.cells #[.slice (some ⟨p0_0, 0, none⟩) x0.tables.length x0.tables.length, .int .i64 x0.next] 32)).heap.size := ⟨_, rfl⟩
  have U2 : Hid (wx0.heap.size + 1 ≤ u2 ∧ u2 ≤ wx2.heap.size) := by refine ⟨by first | omega | (rw [hu2]; simp), by rw [hu2]; exact hB.size⟩
  rw [← hu2] at ho
  have S3L : Hid (∀ W W', (Below w.heap.size w W ∧ W.heap[w.heap.size]? = some (.cells #[.slice a0_0 x0.tables.length c0_0, .int .i64 x0.next] 24) ∧ W.heap[w.heap.size + 1]? = some (.cells #[.int .i64 x2.id, .slice a2_1 x2.cells.length c2_1] 27) ∧ W.heap[b0]? = some (.cells #[.slice ra R0.tables.length rc, .int .i64 R0.next] 32) ∧ Rd W (· < wc.heap.size) (dRowSS R0.tables) (.slice ra R0.tables.length rc) ∧ W.heap[wx0.heap.size]? = some (.cells #[.slice (some ⟨p0_0, 0, none⟩) x0.tables.length x0.tables.length, .int .i64 x0.next] 32) ∧ Own W (dRowSS x0.tables) (fun c => u0 ≤ c ∧ c < wx0.heap.size) (.slice (some ⟨p0_0, 0, none⟩) x0.tables.length x0.tables.length) ∧ W.heap[wx2.heap.size]? = some (.cells #[.int .i64 x2.id, .slice (some ⟨p2_1, 0, none⟩) x2.cells.length x2.cells.length] 38) ∧ Own W (dAtomSS x2.cells) (fun c => u2 ≤ c ∧ c < wx2.heap.size) (.slice (some ⟨p2_1, 0, none⟩) x2.cells.length x2.cells.length)) → Below W.heap.size W W' → (Below w.heap.size w W' ∧ W'.heap[w.heap.size]? = some (.cells #[.slice a0_0 x0.tables.length c0_0, .int .i64 x0.next] 24) ∧ W'.heap[w.heap.size + 1]? = some (.cells #[.int .i64 x2.id, .slice a2_1 x2.cells.length c2_1] 27) ∧ W'.heap[b0]? = some (.cells #[.slice ra R0.tables.length rc, .int .i64 R0.next] 32) ∧ Rd W' (· < wc.heap.size) (dRowSS R0.tables) (.slice ra R0.tables.length rc) ∧ W'.heap[wx0.heap.size]? = some (.cells #[.slice (some ⟨p0_0, 0, none⟩) x0.tables.length x0.tables.length, .int .i64 x0.next] 32) ∧ Own W' (dRowSS x0.tables) (fun c => u0 ≤ c ∧ c < wx0.heap.size) (.slice (some ⟨p0_0, 0, none⟩) x0.tables.length x0.tables.length) ∧ W'.heap[wx2.heap.size]? = some (.cells #[.int .i64 x2.id, .slice (some ⟨p2_1, 0, none⟩) x2.cells.length x2.cells.length] 38) ∧ Own W' (dAtomSS x2.cells) (fun c => u2 ≤ c ∧ c < wx2.heap.size) (.slice (some ⟨p2_1, 0, none⟩) x2.cells.length x2.cells.length))) := fun W W' h hB => ⟨h.1.trans (hB.mono h.1.size), heap_keptD h.2.1 hB, heap_keptD h.2.2.1 hB, heap_keptD h.2.2.2.1 hB, h.2.2.2.2.1.later hB, heap_keptD h.2.2.2.2.2.1 hB, h.2.2.2.2.2.2.1.later hB, heap_keptD h.2.2.2.2.2.2.2.1 hB, h.2.2.2.2.2.2.2.2.later hB⟩
  have M3 : Hid (Below w.heap.size w (wx2.alloc (.cells #[.int .i64 x2.id, .slice (some ⟨p2_1, 0, none⟩) x2.cells.length x2.cells.length] 38)) ∧ (wx2.alloc (.cells #[.int .i64 x2.id, .slice (some ⟨p2_1, 0, none⟩) x2.cells.length x2.cells.length] 38)).heap[w.heap.size]? = some (.cells #[.slice a0_0 x0.tables.length c0_0, .int .i64 x0.next] 24) ∧ (wx2.alloc (.cells #[.int .i64 x2.id, .slice (some ⟨p2_1, 0, none⟩) x2.cells.length x2.cells.length] 38)).heap[w.heap.size + 1]? = some (.cells #[.int .i64 x2.id, .slice a2_1 x2.cells.length c2_1] 27) ∧ (wx2.alloc (.cells #[.int .i64 x2.id, .slice (some ⟨p2_1, 0, none⟩) x2.cells.length x2.cells.length] 38)).heap[b0]? = some (.cells #[.slice ra R0.tables.length rc, .int .i64 R0.next] 32) ∧ Rd (wx2.alloc (.cells #[.int .i64 x2.id, .slice (some ⟨p2_1, 0, none⟩) x2.cells.length x2.cells.length] 38)) (· < wc.heap.size) (dRowSS R0.tables) (.slice ra R0.tables.length rc) ∧ (wx2.alloc (.cells #[.int .i64 x2.id, .slice (some ⟨p2_1, 0, none⟩) x2.cells.length x2.cells.length] 38)).heap[wx0.heap.size]? = some (.cells #[.slice (some ⟨p0_0, 0, none⟩) x0.tables.length x0.tables.length, .int .i64 x0.next] 32) ∧ Own (wx2.alloc (.cells #[.int .i64 x2.id, .slice (some ⟨p2_1, 0, none⟩) x2.cells.length x2.cells.length] 38)) (dRowSS x0.tables) (fun c => u0 ≤ c ∧ c < wx0.heap.size) (.slice (some ⟨p0_0, 0, none⟩) x0.tables.length x0.tables.length) ∧ (wx2.alloc (.cells #[.int .i64 x2.id, .slice (some ⟨p2_1, 0, none⟩) x2.cells.length x2.cells.length] 38)).heap[wx2.heap.size]? = some (.cells #[.int .i64 x2.id, .slice (some ⟨p2_1, 0, none⟩) x2.cells.length x2.cells.length] 38) ∧ Own (wx2.alloc (.cells #[.int .i64 x2.id, .slice (some ⟨p2_1, 0, none⟩) x2.cells.length x2.cells.length] 38)) (dAtomSS x2.cells) (fun c => u2 ≤ c ∧ c < wx2.heap.size) (.slice (some ⟨p2_1, 0, none⟩) x2.cells.length x2.cells.length)) := ⟨hm.1.trans ((below_allocD _ _).mono hm.1.size), heap_keptD hm.2.1 (below_allocD _ _), heap_keptD hm.2.2.1 (below_allocD _ _), heap_keptD hm.2.2.2.1 (below_allocD _ _), hm.2.2.2.2.1.later (below_allocD _ _), heap_keptD hm.2.2.2.2.2.1 (below_allocD _ _), hm.2.2.2.2.2.2.later (below_allocD _ _), heap_newD _ _, (Owns.one ho (j := 1) (by omega)).later (below_allocD _ _)⟩
  clear f_arg0_0 f_arg0_1 f_arg2_0 f_arg2_1 f_w0_0 f_w0_1 f_x0_0 f_x0_1
  clear hm hB ho hu2 M1
  have f_arg0_0 := cell_at (o := 0) M3.out.2.1 rfl
  have f_arg0_1 := cell_at (o := 1) M3.out.2.1 rfl
  have f_arg2_0 := cell_at (o := 0) M3.out.2.2.1 rfl
  have f_arg2_1 := cell_at (o := 1) M3.out.2.2.1 rfl
  have f_w0_0 := cell_at (o := 0) M3.out.2.2.2.1 rfl
  have f_w0_1 := cell_at (o := 1) M3.out.2.2.2.1 rfl
  have f_x0_0 := cell_at (o := 0) M3.out.2.2.2.2.2.1 rfl
  have f_x0_1 := cell_at (o := 1) M3.out.2.2.2.2.2.1 rfl
  have f_x2_0 := cell_at (o := 0) M3.out.2.2.2.2.2.2.2.1 rfl
  have f_x2_1 := cell_at (o := 1) M3.out.2.2.2.2.2.2.2.1 rfl
  go_wp2_with fail
  refine (CI.out _ _ _ _ _ (Rd.any (Own.rd' (M3.out.2.2.2.2.2.2.1))) (Rd.any (Own.rd' (M3.out.2.2.2.2.2.2.2.2)))).mono ?_
  rintro e wg ⟨ga, gc, rfl, ho, hB⟩
  have hm := S3L.out _ _ M3.out hB
  obtain ⟨ug, hug⟩ : ∃ u, u = (wx2.alloc (.cells #[.int .i64 x2.id, .slice (some ⟨p2_1, 0, none⟩) x2.cells.length x2.cells.length] 38)).heap.size := ⟨_, rfl⟩
  have UG : Hid (wx2.heap.size + 1 ≤ ug ∧ ug ≤ wg.heap.size) := by refine ⟨by rw [hug]; simp, by rw [hug]; exact hB.size⟩
  rw [← hug] at ho
  have SGL : Hid (∀ W W', (Below w.heap.size w W ∧ W.heap[w.heap.size]? = some (.cells #[.slice a0_0 x0.tables.length c0_0, .int .i64 x0.next] 24) ∧ W.heap[w.heap.size + 1]? = some (.cells #[.int .i64 x2.id, .slice a2_1 x2.cells.length c2_1] 27) ∧ W.heap[b0]? = some (.cells #[.slice ra R0.tables.length rc, .int .i64 R0.next] 32) ∧ Rd W (· < wc.heap.size) (dRowSS R0.tables) (.slice ra R0.tables.length rc) ∧ W.heap[wx0.heap.size]? = some (.cells #[.slice (some ⟨p0_0, 0, none⟩) x0.tables.length x0.tables.length, .int .i64 x0.next] 32) ∧ Own W (dRowSS x0.tables) (fun c => u0 ≤ c ∧ c < wx0.heap.size) (.slice (some ⟨p0_0, 0, none⟩) x0.tables.length x0.tables.length) ∧ W.heap[wx2.heap.size]? = some (.cells #[.int .i64 x2.id, .slice (some ⟨p2_1, 0, none⟩) x2.cells.length x2.cells.length] 38) ∧ Own W (dAtomSS x2.cells) (fun c => u2 ≤ c ∧ c < wx2.heap.size) (.slice (some ⟨p2_1, 0, none⟩) x2.cells.length x2.cells.length) ∧ W.heap[wg.heap.size]? = some (.cells #[.slice ga R0.tables.length gc, .int .i64 R0.next] 32) ∧ Own W (dRowSS R0.tables) (fun c => ug ≤ c ∧ c < wg.heap.size) (.slice ga R0.tables.length gc)) → Below W.heap.size W W' → (Below w.heap.size w W' ∧ W'.heap[w.heap.size]? = some (.cells #[.slice a0_0 x0.tables.length c0_0, .int .i64 x0.next] 24) ∧ W'.heap[w.heap.size + 1]? = some (.cells #[.int .i64 x2.id, .slice a2_1 x2.cells.length c2_1] 27) ∧ W'.heap[b0]? = some (.cells #[.slice ra R0.tables.length rc, .int .i64 R0.next] 32) ∧ Rd W' (· < wc.heap.size) (dRowSS R0.tables) (.slice ra R0.tables.length rc) ∧ W'.heap[wx0.heap.size]? = some (.cells #[.slice (some ⟨p0_0, 0, none⟩) x0.tables.length x0.tables.length, .int .i64 x0.next] 32) ∧ Own W' (dRowSS x0.tables) (fun c => u0 ≤ c ∧ c < wx0.heap.size) (.slice (some ⟨p0_0, 0, none⟩) x0.tables.length x0.tables.length) ∧ W'.heap[wx2.heap.size]? = some (.cells #[.int .i64 x2.id, .slice (some ⟨p2_1, 0, none⟩) x2.cells.length x2.cells.length] 38) ∧ Own W' (dAtomSS x2.cells) (fun c => u2 ≤ c ∧ c < wx2.heap.size) (.slice (some ⟨p2_1, 0, none⟩) x2.cells.length x2.cells.length) ∧ W'.heap[wg.heap.size]? = some (.cells #[.slice ga R0.tables.length gc, .int .i64 R0.next] 32) ∧ Own W' (dRowSS R0.tables) (fun c => ug ≤ c ∧ c < wg.heap.size) (.slice ga R0.tables.length gc))) := fun W W' h hB => ⟨h.1.trans (hB.mono h.1.size), heap_keptD h.2.1 hB, heap_keptD h.2.2.1 hB, heap_keptD h.2.2.2.1 hB, h.2.2.2.2.1.later hB, heap_keptD h.2.2.2.2.2.1 hB, h.2.2.2.2.2.2.1.later hB, heap_keptD h.2.2.2.2.2.2.2.1 hB, h.2.2.2.2.2.2.2.2.1.later hB, heap_keptD h.2.2.2.2.2.2.2.2.2.1 hB, h.2.2.2.2.2.2.2.2.2.2.later hB⟩
  have MG : Hid (Below w.heap.size w (wg.alloc (.cells #[.slice ga R0.tables.length gc, .int .i64 R0.next] 32)) ∧ (wg.alloc (.cells #[.slice ga R0.tables.length gc, .int .i64 R0.next] 32)).heap[w.heap.size]? = some (.cells #[.slice a0_0 x0.tables.length c0_0, .int .i64 x0.next] 24) ∧ (wg.alloc (.cells #[.slice ga R0.tables.length gc, .int .i64 R0.next] 32)).heap[w.heap.size + 1]? = some (.cells #[.int .i64 x2.id, .slice a2_1 x2.cells.length c2_1] 27) ∧ (wg.alloc (.cells #[.slice ga R0.tables.length gc, .int .i64 R0.next] 32)).heap[b0]? = some (.cells #[.slice ra R0.tables.length rc, .int .i64 R0.next] 32) ∧ Rd (wg.alloc (.cells #[.slice ga R0.tables.length gc, .int .i64 R0.next] 32)) (· < wc.heap.size) (dRowSS R0.tables) (.slice ra R0.tables.length rc) ∧ (wg.alloc (.cells #[.slice ga R0.tables.length gc, .int .i64 R0.next] 32)).heap[wx0.heap.size]? = some (.cells #[.slice (some ⟨p0_0, 0, none⟩) x0.tables.length x0.tables.length, .int .i64 x0.next] 32) ∧ Own (wg.alloc (.cells #[.slice ga R0.tables.length gc, .int .i64 R0.next] 32)) (dRowSS x0.tables) (fun c => u0 ≤ c ∧ c < wx0.heap.size) (.slice (some ⟨p0_0, 0, none⟩) x0.tables.length x0.tables.length) ∧ (wg.alloc (.cells #[.slice ga R0.tables.length gc, .int .i64 R0.next] 32)).heap[wx2.heap.size]? = some (.cells #[.int .i64 x2.id, .slice (some ⟨p2_1, 0, none⟩) x2.cells.length x2.cells.length] 38) ∧ Own (wg.alloc (.cells #[.slice ga R0.tables.length gc, .int .i64 R0.next] 32)) (dAtomSS x2.cells) (fun c => u2 ≤ c ∧ c < wx2.heap.size) (.slice (some ⟨p2_1, 0, none⟩) x2.cells.length x2.cells.length) ∧ (wg.alloc (.cells #[.slice ga R0.tables.length gc, .int .i64 R0.next] 32)).heap[wg.heap.size]? = some (.cells #[.slice ga R0.tables.length gc, .int .i64 R0.next] 32) ∧ Own (wg.alloc (.cells #[.slice ga R0.tables.length gc, .int .i64 R0.next] 32)) (dRowSS R0.tables) (fun c => ug ≤ c ∧ c < wg.heap.size) (.slice ga R0.tables.length gc)) := ⟨hm.1.trans ((below_allocD _ _).mono hm.1.size), heap_keptD hm.2.1 (below_allocD _ _), heap_keptD hm.2.2.1 (below_allocD _ _), heap_keptD hm.2.2.2.1 (below_allocD _ _), hm.2.2.2.2.1.later (below_allocD _ _), heap_keptD hm.2.2.2.2.2.1 (below_allocD _ _), hm.2.2.2.2.2.2.1.later (below_allocD _ _), heap_keptD hm.2.2.2.2.2.2.2.1 (below_allocD _ _), hm.2.2.2.2.2.2.2.2.later (below_allocD _ _), heap_newD _ _, ho.later (below_allocD _ _)⟩
  clear f_arg0_0 f_arg0_1 f_arg2_0 f_arg2_1 f_w0_0 f_w0_1 f_x0_0 f_x0_1 f_x2_0 f_x2_1
  clear hm hB ho hug M3
  have ORD := Lib.hid (And.intro (O0.out) (And.intro (U0.out) (And.intro (U2.out) (UG.out))))
  have f_arg0_0 := cell_at (o := 0) MG.out.2.1 rfl
  have f_arg0_1 := cell_at (o := 1) MG.out.2.1 rfl
  have f_arg2_0 := cell_at (o := 0) MG.out.2.2.1 rfl
  have f_arg2_1 := cell_at (o := 1) MG.out.2.2.1 rfl
  have f_w0_0 := cell_at (o := 0) MG.out.2.2.2.1 rfl
  have f_w0_1 := cell_at (o := 1) MG.out.2.2.2.1 rfl
  have f_x0_0 := cell_at (o := 0) MG.out.2.2.2.2.2.1 rfl
  have f_x0_1 := cell_at (o := 1) MG.out.2.2.2.2.2.1 rfl
  have f_x2_0 := cell_at (o := 0) MG.out.2.2.2.2.2.2.2.1 rfl
  have f_x2_1 := cell_at (o := 1) MG.out.2.2.2.2.2.2.2.1 rfl
  have f_g_0 := cell_at (o := 0) MG.out.2.2.2.2.2.2.2.2.2.1 rfl
  have f_g_1 := cell_at (o := 1) MG.out.2.2.2.2.2.2.2.2.2.1 rfl
  go_wp2_with fail
  refine (EQR.out _ _ _ _ _ (Rd.any (Own.rd' (MG.out.2.2.2.2.2.2.2.2.2.2))) (Rd.any (MG.out.2.2.2.2.1))).mono ?_
  rintro e wc0 ⟨rfl, hB⟩
  have N1 := Lib.hid (SGL.out _ _ MG.out hB)
  clear f_arg0_0 f_arg0_1 f_arg2_0 f_arg2_1 f_w0_0 f_w0_1 f_x0_0 f_x0_1 f_x2_0 f_x2_1 f_g_0 f_g_1
  clear hB MG
  have f_arg0_0 := cell_at (o := 0) N1.out.2.1 rfl
  have f_arg0_1 := cell_at (o := 1) N1.out.2.1 rfl
  have f_arg2_0 := cell_at (o := 0) N1.out.2.2.1 rfl
  have f_arg2_1 := cell_at (o := 1) N1.out.2.2.1 rfl
  have f_w0_0 := cell_at (o := 0) N1.out.2.2.2.1 rfl
  have f_w0_1 := cell_at (o := 1) N1.out.2.2.2.1 rfl
  have f_x0_0 := cell_at (o := 0) N1.out.2.2.2.2.2.1 rfl
  have f_x0_1 := cell_at (o := 1) N1.out.2.2.2.2.2.1 rfl
  have f_x2_0 := cell_at (o := 0) N1.out.2.2.2.2.2.2.2.1 rfl
  have f_x2_1 := cell_at (o := 1) N1.out.2.2.2.2.2.2.2.1 rfl
  have f_g_0 := cell_at (o := 0) N1.out.2.2.2.2.2.2.2.2.2.1 rfl
  have f_g_1 := cell_at (o := 1) N1.out.2.2.2.2.2.2.2.2.2.1 rfl
  go_wp2_with fail
  have CE0 : Hid (∀ W, (Below w.heap.size w W ∧ W.heap[w.heap.size]? = some (.cells #[.slice a0_0 x0.tables.length c0_0, .int .i64 x0.next] 24) ∧ W.heap[w.heap.size + 1]? = some (.cells #[.int .i64 x2.id, .slice a2_1 x2.cells.length c2_1] 27) ∧ W.heap[b0]? = some (.cells #[.slice ra R0.tables.length rc, .int .i64 R0.next] 32) ∧ Rd W (· < wc.heap.size) (dRowSS R0.tables) (.slice ra R0.tables.length rc) ∧ W.heap[wx0.heap.size]? = some (.cells #[.slice (some ⟨p0_0, 0, none⟩) x0.tables.length x0.tables.length, .int .i64 x0.next] 32) ∧ Own W (dRowSS x0.tables) (fun c => u0 ≤ c ∧ c < wx0.heap.size) (.slice (some ⟨p0_0, 0, none⟩) x0.tables.length x0.tables.length) ∧ W.heap[wx2.heap.size]? = some (.cells #[.int .i64 x2.id, .slice (some ⟨p2_1, 0, none⟩) x2.cells.length x2.cells.length] 38) ∧ Own W (dAtomSS x2.cells) (fun c => u2 ≤ c ∧ c < wx2.heap.size) (.slice (some ⟨p2_1, 0, none⟩) x2.cells.length x2.cells.length) ∧ W.heap[wg.heap.size]? = some (.cells #[.slice ga R0.tables.length gc, .int .i64 R0.next] 32) ∧ Own W (dRowSS R0.tables) (fun c => ug ≤ c ∧ c < wg.heap.size) (.slice ga R0.tables.length gc)) → (W.cell? ⟨w.heap.size, 0, none⟩ = some (.slice a0_0 x0.tables.length c0_0) ∧ W.cell? ⟨w.heap.size, 1, none⟩ = some (.int .i64 x0.next) ∧ W.cell? ⟨wx0.heap.size, 0, none⟩ = some (.slice (some ⟨p0_0, 0, none⟩) x0.tables.length x0.tables.length) ∧ W.cell? ⟨wx0.heap.size, 1, none⟩ = some (.int .i64 x0.next))) := fun W h => ⟨cell_at (o := 0) h.2.1 rfl, cell_at (o := 1) h.2.1 rfl, cell_at (o := 0) h.2.2.2.2.2.1 rfl, cell_at (o := 1) h.2.2.2.2.2.1 rfl⟩
  have XA0 : Hid (∀ W, (Below w.heap.size w W ∧ W.heap[w.heap.size]? = some (.cells #[.slice a0_0 x0.tables.length c0_0, .int .i64 x0.next] 24) ∧ W.heap[w.heap.size + 1]? = some (.cells #[.int .i64 x2.id, .slice a2_1 x2.cells.length c2_1] 27) ∧ W.heap[b0]? = some (.cells #[.slice ra R0.tables.length rc, .int .i64 R0.next] 32) ∧ Rd W (· < wc.heap.size) (dRowSS R0.tables) (.slice ra R0.tables.length rc) ∧ W.heap[wx0.heap.size]? = some (.cells #[.slice (some ⟨p0_0, 0, none⟩) x0.tables.length x0.tables.length, .int .i64 x0.next] 32) ∧ Own W (dRowSS x0.tables) (fun c => u0 ≤ c ∧ c < wx0.heap.size) (.slice (some ⟨p0_0, 0, none⟩) x0.tables.length x0.tables.length) ∧ W.heap[wx2.heap.size]? = some (.cells #[.int .i64 x2.id, .slice (some ⟨p2_1, 0, none⟩) x2.cells.length x2.cells.length] 38) ∧ Own W (dAtomSS x2.cells) (fun c => u2 ≤ c ∧ c < wx2.heap.size) (.slice (some ⟨p2_1, 0, none⟩) x2.cells.length x2.cells.length) ∧ W.heap[wg.heap.size]? = some (.cells #[.slice ga R0.tables.length gc, .int .i64 R0.next] 32) ∧ Own W (dRowSS R0.tables) (fun c => ug ≤ c ∧ c < wg.heap.size) (.slice ga R0.tables.length gc)) → (Below w.heap.size w W ∧ W.heap[w.heap.size]? = some (.cells #[.slice a0_0 x0.tables.length c0_0, .int .i64 x0.next] 24) ∧ W.heap[w.heap.size + 1]? = some (.cells #[.int .i64 x2.id, .slice a2_1 x2.cells.length c2_1] 27))) := fun W h => ⟨h.1, h.2.1, h.2.2.1⟩
  have hx := N1.out
  clear N1
  refine wp_region_held_drew (S := (fun W => W.cell? ⟨w.heap.size, 0, none⟩ = some (.slice a0_0 x0.tables.length c0_0) ∧ W.cell? ⟨w.heap.size, 1, none⟩ = some (.int .i64 x0.next) ∧ W.cell? ⟨wx0.heap.size, 0, none⟩ = some (.slice (some ⟨p0_0, 0, none⟩) x0.tables.length x0.tables.length) ∧ W.cell? ⟨wx0.heap.size, 1, none⟩ = some (.int .i64 x0.next))) (by kernel_rfl) ?_ (fun hHeld => ?_)
  · (first | exact CE0.out _ hx | exact CE0.out _ (SGL.out _ _ hx (Below.refl _ _).drew))
  refine wpAnyH_take (i := 0) (v := ?_) rfl (by kernel_rfl) (by kernel_rfl) (by kernel_rfl) (fun _ _ _ h => h) (Or.inl ⟨by kernel_rfl, ?_⟩) (by assumption) ?_
  rotate_left
  · (intro wS hSw; (try dsimp only at hSw); go_simp <;> with_reducible rfl)
  try simp only [Act.put, List.getElem_toArray, List.getElem_cons_succ, List.getElem_cons_zero, List.setIfInBounds_toArray, List.set_cons_zero, List.set_cons_succ]
  refine wpAnyH_take (i := 1) (v := ?_) rfl (by kernel_rfl) (by kernel_rfl) (by kernel_rfl) (fun _ _ _ h => h) (Or.inl ⟨by kernel_rfl, ?_⟩) (by assumption) ?_
  rotate_left
  · (intro wS hSw; (try dsimp only at hSw); go_simp <;> with_reducible rfl)
  try simp only [Act.put, List.getElem_toArray, List.getElem_cons_succ, List.getElem_cons_zero, List.setIfInBounds_toArray, List.set_cons_zero, List.set_cons_succ]
  refine wpAnyH_ready (rs := [2]) (by kernel_rfl) (by simp) (AllReadyH.cons rfl (fun K hK => ?_) AllReadyH.nil)
  go_simp
  (go_at_call 8; refine (TO0.out _ (by first | exact XA0.out _ hx | exact XA0.out _ (SGL.out _ _ hx (Below.refl _ _).drew))).mono ?_; rintro e we0 ⟨s0_0, rfl, ho, hB, _⟩; have h2 : Below w.heap.size w we0 ∧ we0.heap[w.heap.size]? = some (.cells #[.slice a0_0 x0.tables.length c0_0, .int .i64 x0.next] 24) ∧ we0.heap[w.heap.size + 1]? = some (.cells #[.int .i64 x2.id, .slice a2_1 x2.cells.length c2_1] 27) ∧ we0.heap[b0]? = some (.cells #[.slice ra R0.tables.length rc, .int .i64 R0.next] 32) ∧ Rd we0 (· < wc.heap.size) (dRowSS R0.tables) (.slice ra R0.tables.length rc) ∧ we0.heap[wx0.heap.size]? = some (.cells #[.slice (some ⟨p0_0, 0, none⟩) x0.tables.length x0.tables.length, .int .i64 x0.next] 32) ∧ Own we0 (dRowSS x0.tables) (fun c => u0 ≤ c ∧ c < wx0.heap.size) (.slice (some ⟨p0_0, 0, none⟩) x0.tables.length x0.tables.length) ∧ we0.heap[wx2.heap.size]? = some (.cells #[.int .i64 x2.id, .slice (some ⟨p2_1, 0, none⟩) x2.cells.length x2.cells.length] 38) ∧ Own we0 (dAtomSS x2.cells) (fun c => u2 ≤ c ∧ c < wx2.heap.size) (.slice (some ⟨p2_1, 0, none⟩) x2.cells.length x2.cells.length) ∧ we0.heap[wg.heap.size]? = some (.cells #[.slice ga R0.tables.length gc, .int .i64 R0.next] 32) ∧ Own we0 (dRowSS R0.tables) (fun c => ug ≤ c ∧ c < wg.heap.size) (.slice ga R0.tables.length gc) := (by first | exact SGL.out _ _ hx hB | exact SGL.out _ _ (SGL.out _ _ hx (Below.refl _ _).drew) hB); clear hx; have hx := h2; clear h2; have RE0_0 : Hid (Rd _ (fun _ => True) (dRowSS x0.tables) (.slice (some ⟨s0_0, 0, none⟩) x0.tables.length x0.tables.length)) := (Owns.one ho (j := 0) (by omega)).rd'.any; clear hB ho)
  refine hK.out _ _ ?_ (fun hHeld => ?_)
  · (first | exact CE0.out _ hx | exact CE0.out _ (SGL.out _ _ hx (Below.refl _ _).drew))
  clear hK K
  try simp only [Act.put, List.getElem_toArray, List.getElem_cons_succ, List.getElem_cons_zero, List.setIfInBounds_toArray, List.set_cons_zero, List.set_cons_succ]
  refine wpAnyH_ready (rs := [3]) (by kernel_rfl) (by simp) (AllReadyH.cons rfl (fun K hK => ?_) AllReadyH.nil)
  go_simp
  (go_at_call 11; refine (EQ0.out _ _ _ _ _ (by first | exact Rd.any (Own.rd' (hx.2.2.2.2.2.2.1)) | exact Rd.later (Rd.any (Own.rd' (hx.2.2.2.2.2.2.1))) (Below.refl _ _).drew) (by first | exact RE0_0.out | exact Rd.later RE0_0.out (Below.refl _ _).drew)).mono ?_; rintro e wf0 ⟨rfl, hB⟩; have h2 : Below w.heap.size w wf0 ∧ wf0.heap[w.heap.size]? = some (.cells #[.slice a0_0 x0.tables.length c0_0, .int .i64 x0.next] 24) ∧ wf0.heap[w.heap.size + 1]? = some (.cells #[.int .i64 x2.id, .slice a2_1 x2.cells.length c2_1] 27) ∧ wf0.heap[b0]? = some (.cells #[.slice ra R0.tables.length rc, .int .i64 R0.next] 32) ∧ Rd wf0 (· < wc.heap.size) (dRowSS R0.tables) (.slice ra R0.tables.length rc) ∧ wf0.heap[wx0.heap.size]? = some (.cells #[.slice (some ⟨p0_0, 0, none⟩) x0.tables.length x0.tables.length, .int .i64 x0.next] 32) ∧ Own wf0 (dRowSS x0.tables) (fun c => u0 ≤ c ∧ c < wx0.heap.size) (.slice (some ⟨p0_0, 0, none⟩) x0.tables.length x0.tables.length) ∧ wf0.heap[wx2.heap.size]? = some (.cells #[.int .i64 x2.id, .slice (some ⟨p2_1, 0, none⟩) x2.cells.length x2.cells.length] 38) ∧ Own wf0 (dAtomSS x2.cells) (fun c => u2 ≤ c ∧ c < wx2.heap.size) (.slice (some ⟨p2_1, 0, none⟩) x2.cells.length x2.cells.length) ∧ wf0.heap[wg.heap.size]? = some (.cells #[.slice ga R0.tables.length gc, .int .i64 R0.next] 32) ∧ Own wf0 (dRowSS R0.tables) (fun c => ug ≤ c ∧ c < wg.heap.size) (.slice ga R0.tables.length gc) := (by first | exact SGL.out _ _ hx hB | exact SGL.out _ _ (SGL.out _ _ hx (Below.refl _ _).drew) hB); clear hx hB; have hx := h2; clear h2)
  refine hK.out _ _ ?_ (fun hHeld => ?_)
  · (first | exact CE0.out _ hx | exact CE0.out _ (SGL.out _ _ hx (Below.refl _ _).drew))
  clear hK K
  try simp only [Act.put, List.getElem_toArray, List.getElem_cons_succ, List.getElem_cons_zero, List.setIfInBounds_toArray, List.set_cons_zero, List.set_cons_succ]
  refine wpAnyH_take (i := 4) (v := ?_) rfl (by kernel_rfl) (by kernel_rfl) (by kernel_rfl) (fun _ _ _ h => h) (Or.inl ⟨by kernel_rfl, ?_⟩) (by assumption) ?_
  rotate_left
  · (intro wS hSw; (try dsimp only at hSw); go_simp <;> with_reducible rfl)
  try simp only [Act.put, List.getElem_toArray, List.getElem_cons_succ, List.getElem_cons_zero, List.setIfInBounds_toArray, List.set_cons_zero, List.set_cons_succ]
  refine wpAnyH_done (by kernel_rfl) ?_ _
  have N2 := Lib.hid hx
  clear f_arg0_0 f_arg0_1 f_arg2_0 f_arg2_1 f_w0_0 f_w0_1 f_x0_0 f_x0_1 f_x2_0 f_x2_1 f_g_0 f_g_1
  clear hx RE0_0
  have f_arg0_0 := cell_at (o := 0) N2.out.2.1 rfl
  have f_arg0_1 := cell_at (o := 1) N2.out.2.1 rfl
  have f_arg2_0 := cell_at (o := 0) N2.out.2.2.1 rfl
  have f_arg2_1 := cell_at (o := 1) N2.out.2.2.1 rfl
  have f_w0_0 := cell_at (o := 0) N2.out.2.2.2.1 rfl
  have f_w0_1 := cell_at (o := 1) N2.out.2.2.2.1 rfl
  have f_x0_0 := cell_at (o := 0) N2.out.2.2.2.2.2.1 rfl
  have f_x0_1 := cell_at (o := 1) N2.out.2.2.2.2.2.1 rfl
  have f_x2_0 := cell_at (o := 0) N2.out.2.2.2.2.2.2.2.1 rfl
  have f_x2_1 := cell_at (o := 1) N2.out.2.2.2.2.2.2.2.1 rfl
  have f_g_0 := cell_at (o := 0) N2.out.2.2.2.2.2.2.2.2.2.1 rfl
  have f_g_1 := cell_at (o := 1) N2.out.2.2.2.2.2.2.2.2.2.1 rfl
  go_wp2_with fail
  have CE2 : Hid (∀ W, (Below w.heap.size w W ∧ W.heap[w.heap.size]? = some (.cells #[.slice a0_0 x0.tables.length c0_0, .int .i64 x0.next] 24) ∧ W.heap[w.heap.size + 1]? = some (.cells #[.int .i64 x2.id, .slice a2_1 x2.cells.length c2_1] 27) ∧ W.heap[b0]? = some (.cells #[.slice ra R0.tables.length rc, .int .i64 R0.next] 32) ∧ Rd W (· < wc.heap.size) (dRowSS R0.tables) (.slice ra R0.tables.length rc) ∧ W.heap[wx0.heap.size]? = some (.cells #[.slice (some ⟨p0_0, 0, none⟩) x0.tables.length x0.tables.length, .int .i64 x0.next] 32) ∧ Own W (dRowSS x0.tables) (fun c => u0 ≤ c ∧ c < wx0.heap.size) (.slice (some ⟨p0_0, 0, none⟩) x0.tables.length x0.tables.length) ∧ W.heap[wx2.heap.size]? = some (.cells #[.int .i64 x2.id, .slice (some ⟨p2_1, 0, none⟩) x2.cells.length x2.cells.length] 38) ∧ Own W (dAtomSS x2.cells) (fun c => u2 ≤ c ∧ c < wx2.heap.size) (.slice (some ⟨p2_1, 0, none⟩) x2.cells.length x2.cells.length) ∧ W.heap[wg.heap.size]? = some (.cells #[.slice ga R0.tables.length gc, .int .i64 R0.next] 32) ∧ Own W (dRowSS R0.tables) (fun c => ug ≤ c ∧ c < wg.heap.size) (.slice ga R0.tables.length gc)) → (W.cell? ⟨w.heap.size + 1, 0, none⟩ = some (.int .i64 x2.id) ∧ W.cell? ⟨w.heap.size + 1, 1, none⟩ = some (.slice a2_1 x2.cells.length c2_1) ∧ W.cell? ⟨wx2.heap.size, 0, none⟩ = some (.int .i64 x2.id) ∧ W.cell? ⟨wx2.heap.size, 1, none⟩ = some (.slice (some ⟨p2_1, 0, none⟩) x2.cells.length x2.cells.length))) := fun W h => ⟨cell_at (o := 0) h.2.2.1 rfl, cell_at (o := 1) h.2.2.1 rfl, cell_at (o := 0) h.2.2.2.2.2.2.2.1 rfl, cell_at (o := 1) h.2.2.2.2.2.2.2.1 rfl⟩
  have XA2 : Hid (∀ W, (Below w.heap.size w W ∧ W.heap[w.heap.size]? = some (.cells #[.slice a0_0 x0.tables.length c0_0, .int .i64 x0.next] 24) ∧ W.heap[w.heap.size + 1]? = some (.cells #[.int .i64 x2.id, .slice a2_1 x2.cells.length c2_1] 27) ∧ W.heap[b0]? = some (.cells #[.slice ra R0.tables.length rc, .int .i64 R0.next] 32) ∧ Rd W (· < wc.heap.size) (dRowSS R0.tables) (.slice ra R0.tables.length rc) ∧ W.heap[wx0.heap.size]? = some (.cells #[.slice (some ⟨p0_0, 0, none⟩) x0.tables.length x0.tables.length, .int .i64 x0.next] 32) ∧ Own W (dRowSS x0.tables) (fun c => u0 ≤ c ∧ c < wx0.heap.size) (.slice (some ⟨p0_0, 0, none⟩) x0.tables.length x0.tables.length) ∧ W.heap[wx2.heap.size]? = some (.cells #[.int .i64 x2.id, .slice (some ⟨p2_1, 0, none⟩) x2.cells.length x2.cells.length] 38) ∧ Own W (dAtomSS x2.cells) (fun c => u2 ≤ c ∧ c < wx2.heap.size) (.slice (some ⟨p2_1, 0, none⟩) x2.cells.length x2.cells.length) ∧ W.heap[wg.heap.size]? = some (.cells #[.slice ga R0.tables.length gc, .int .i64 R0.next] 32) ∧ Own W (dRowSS R0.tables) (fun c => ug ≤ c ∧ c < wg.heap.size) (.slice ga R0.tables.length gc)) → (Below w.heap.size w W ∧ W.heap[w.heap.size]? = some (.cells #[.slice a0_0 x0.tables.length c0_0, .int .i64 x0.next] 24) ∧ W.heap[w.heap.size + 1]? = some (.cells #[.int .i64 x2.id, .slice a2_1 x2.cells.length c2_1] 27))) := fun W h => ⟨h.1, h.2.1, h.2.2.1⟩
  have hx := N2.out
  clear N2
  refine wp_region_held_drew (S := (fun W => W.cell? ⟨w.heap.size + 1, 0, none⟩ = some (.int .i64 x2.id) ∧ W.cell? ⟨w.heap.size + 1, 1, none⟩ = some (.slice a2_1 x2.cells.length c2_1) ∧ W.cell? ⟨wx2.heap.size, 0, none⟩ = some (.int .i64 x2.id) ∧ W.cell? ⟨wx2.heap.size, 1, none⟩ = some (.slice (some ⟨p2_1, 0, none⟩) x2.cells.length x2.cells.length))) (by kernel_rfl) ?_ (fun hHeld => ?_)
  · (first | exact CE2.out _ hx | exact CE2.out _ (SGL.out _ _ hx (Below.refl _ _).drew))
  refine wpAnyH_take (i := 0) (v := ?_) rfl (by kernel_rfl) (by kernel_rfl) (by kernel_rfl) (fun _ _ _ h => h) (Or.inl ⟨by kernel_rfl, ?_⟩) (by assumption) ?_
  rotate_left
  · (intro wS hSw; (try dsimp only at hSw); go_simp <;> with_reducible rfl)
  try simp only [Act.put, List.getElem_toArray, List.getElem_cons_succ, List.getElem_cons_zero, List.setIfInBounds_toArray, List.set_cons_zero, List.set_cons_succ]
  refine wpAnyH_take (i := 1) (v := ?_) rfl (by kernel_rfl) (by kernel_rfl) (by kernel_rfl) (fun _ _ _ h => h) (Or.inl ⟨by kernel_rfl, ?_⟩) (by assumption) ?_
  rotate_left
  · (intro wS hSw; (try dsimp only at hSw); go_simp <;> with_reducible rfl)
  try simp only [Act.put, List.getElem_toArray, List.getElem_cons_succ, List.getElem_cons_zero, List.setIfInBounds_toArray, List.set_cons_zero, List.set_cons_succ]
  refine wpAnyH_ready (rs := [2]) (by kernel_rfl) (by simp) (AllReadyH.cons rfl (fun K hK => ?_) AllReadyH.nil)
  go_simp
  (go_at_call 9; refine (TO2.out _ (by first | exact XA2.out _ hx | exact XA2.out _ (SGL.out _ _ hx (Below.refl _ _).drew))).mono ?_; rintro e we2 ⟨s2_1, rfl, ho, hB, _⟩; have h2 : Below w.heap.size w we2 ∧ we2.heap[w.heap.size]? = some (.cells #[.slice a0_0 x0.tables.length c0_0, .int .i64 x0.next] 24) ∧ we2.heap[w.heap.size + 1]? = some (.cells #[.int .i64 x2.id, .slice a2_1 x2.cells.length c2_1] 27) ∧ we2.heap[b0]? = some (.cells #[.slice ra R0.tables.length rc, .int .i64 R0.next] 32) ∧ Rd we2 (· < wc.heap.size) (dRowSS R0.tables) (.slice ra R0.tables.length rc) ∧ we2.heap[wx0.heap.size]? = some (.cells #[.slice (some ⟨p0_0, 0, none⟩) x0.tables.length x0.tables.length, .int .i64 x0.next] 32) ∧ Own we2 (dRowSS x0.tables) (fun c => u0 ≤ c ∧ c < wx0.heap.size) (.slice (some ⟨p0_0, 0, none⟩) x0.tables.length x0.tables.length) ∧ we2.heap[wx2.heap.size]? = some (.cells #[.int .i64 x2.id, .slice (some ⟨p2_1, 0, none⟩) x2.cells.length x2.cells.length] 38) ∧ Own we2 (dAtomSS x2.cells) (fun c => u2 ≤ c ∧ c < wx2.heap.size) (.slice (some ⟨p2_1, 0, none⟩) x2.cells.length x2.cells.length) ∧ we2.heap[wg.heap.size]? = some (.cells #[.slice ga R0.tables.length gc, .int .i64 R0.next] 32) ∧ Own we2 (dRowSS R0.tables) (fun c => ug ≤ c ∧ c < wg.heap.size) (.slice ga R0.tables.length gc) := (by first | exact SGL.out _ _ hx hB | exact SGL.out _ _ (SGL.out _ _ hx (Below.refl _ _).drew) hB); clear hx; have hx := h2; clear h2; have RE2_1 : Hid (Rd _ (fun _ => True) (dAtomSS x2.cells) (.slice (some ⟨s2_1, 0, none⟩) x2.cells.length x2.cells.length)) := (Owns.one ho (j := 1) (by omega)).rd'.any; clear hB ho)
  refine hK.out _ _ ?_ (fun hHeld => ?_)
  · (first | exact CE2.out _ hx | exact CE2.out _ (SGL.out _ _ hx (Below.refl _ _).drew))
  clear hK K
  try simp only [Act.put, List.getElem_toArray, List.getElem_cons_succ, List.getElem_cons_zero, List.setIfInBounds_toArray, List.set_cons_zero, List.set_cons_succ]
  refine wpAnyH_ready (rs := [3]) (by kernel_rfl) (by simp) (AllReadyH.cons rfl (fun K hK => ?_) AllReadyH.nil)
  go_simp
  (go_at_call 12; refine (EQ2.out _ _ _ _ _ (by first | exact Rd.any (Own.rd' (hx.2.2.2.2.2.2.2.2.1)) | exact Rd.later (Rd.any (Own.rd' (hx.2.2.2.2.2.2.2.2.1))) (Below.refl _ _).drew) (by first | exact RE2_1.out | exact Rd.later RE2_1.out (Below.refl _ _).drew)).mono ?_; rintro e wf2 ⟨rfl, hB⟩; have h2 : Below w.heap.size w wf2 ∧ wf2.heap[w.heap.size]? = some (.cells #[.slice a0_0 x0.tables.length c0_0, .int .i64 x0.next] 24) ∧ wf2.heap[w.heap.size + 1]? = some (.cells #[.int .i64 x2.id, .slice a2_1 x2.cells.length c2_1] 27) ∧ wf2.heap[b0]? = some (.cells #[.slice ra R0.tables.length rc, .int .i64 R0.next] 32) ∧ Rd wf2 (· < wc.heap.size) (dRowSS R0.tables) (.slice ra R0.tables.length rc) ∧ wf2.heap[wx0.heap.size]? = some (.cells #[.slice (some ⟨p0_0, 0, none⟩) x0.tables.length x0.tables.length, .int .i64 x0.next] 32) ∧ Own wf2 (dRowSS x0.tables) (fun c => u0 ≤ c ∧ c < wx0.heap.size) (.slice (some ⟨p0_0, 0, none⟩) x0.tables.length x0.tables.length) ∧ wf2.heap[wx2.heap.size]? = some (.cells #[.int .i64 x2.id, .slice (some ⟨p2_1, 0, none⟩) x2.cells.length x2.cells.length] 38) ∧ Own wf2 (dAtomSS x2.cells) (fun c => u2 ≤ c ∧ c < wx2.heap.size) (.slice (some ⟨p2_1, 0, none⟩) x2.cells.length x2.cells.length) ∧ wf2.heap[wg.heap.size]? = some (.cells #[.slice ga R0.tables.length gc, .int .i64 R0.next] 32) ∧ Own wf2 (dRowSS R0.tables) (fun c => ug ≤ c ∧ c < wg.heap.size) (.slice ga R0.tables.length gc) := (by first | exact SGL.out _ _ hx hB | exact SGL.out _ _ (SGL.out _ _ hx (Below.refl _ _).drew) hB); clear hx hB; have hx := h2; clear h2)
  refine hK.out _ _ ?_ (fun hHeld => ?_)
  · (first | exact CE2.out _ hx | exact CE2.out _ (SGL.out _ _ hx (Below.refl _ _).drew))
  clear hK K
  try simp only [Act.put, List.getElem_toArray, List.getElem_cons_succ, List.getElem_cons_zero, List.setIfInBounds_toArray, List.set_cons_zero, List.set_cons_succ]
  refine wpAnyH_take (i := 4) (v := ?_) rfl (by kernel_rfl) (by kernel_rfl) (by kernel_rfl) (fun _ _ _ h => h) (Or.inl ⟨by kernel_rfl, ?_⟩) (by assumption) ?_
  rotate_left
  · (intro wS hSw; (try dsimp only at hSw); go_simp <;> with_reducible rfl)
  try simp only [Act.put, List.getElem_toArray, List.getElem_cons_succ, List.getElem_cons_zero, List.setIfInBounds_toArray, List.set_cons_zero, List.set_cons_succ]
  refine wpAnyH_done (by kernel_rfl) ?_ _
  have N3 := Lib.hid hx
  clear f_arg0_0 f_arg0_1 f_arg2_0 f_arg2_1 f_w0_0 f_w0_1 f_x0_0 f_x0_1 f_x2_0 f_x2_1 f_g_0 f_g_1
  clear hx RE2_1
  have f_arg0_0 := cell_at (o := 0) N3.out.2.1 rfl
  have f_arg0_1 := cell_at (o := 1) N3.out.2.1 rfl
  have f_arg2_0 := cell_at (o := 0) N3.out.2.2.1 rfl
  have f_arg2_1 := cell_at (o := 1) N3.out.2.2.1 rfl
  have f_w0_0 := cell_at (o := 0) N3.out.2.2.2.1 rfl
  have f_w0_1 := cell_at (o := 1) N3.out.2.2.2.1 rfl
  have f_x0_0 := cell_at (o := 0) N3.out.2.2.2.2.2.1 rfl
  have f_x0_1 := cell_at (o := 1) N3.out.2.2.2.2.2.1 rfl
  have f_x2_0 := cell_at (o := 0) N3.out.2.2.2.2.2.2.2.1 rfl
  have f_x2_1 := cell_at (o := 1) N3.out.2.2.2.2.2.2.2.1 rfl
  have f_g_0 := cell_at (o := 0) N3.out.2.2.2.2.2.2.2.2.2.1 rfl
  have f_g_1 := cell_at (o := 1) N3.out.2.2.2.2.2.2.2.2.2.1 rfl
  go_wp2_with fail
  have MB : Hid True := trivial
  have T0F : Hid (∀ W W', (Below w.heap.size w W ∧ W.heap[w.heap.size]? = some (.cells #[.slice a0_0 x0.tables.length c0_0, .int .i64 x0.next] 24) ∧ W.heap[w.heap.size + 1]? = some (.cells #[.int .i64 x2.id, .slice a2_1 x2.cells.length c2_1] 27) ∧ W.heap[b0]? = some (.cells #[.slice ra R0.tables.length rc, .int .i64 R0.next] 32) ∧ Rd W (· < wc.heap.size) (dRowSS R0.tables) (.slice ra R0.tables.length rc) ∧ W.heap[wx0.heap.size]? = some (.cells #[.slice (some ⟨p0_0, 0, none⟩) x0.tables.length x0.tables.length, .int .i64 x0.next] 32) ∧ Own W (dRowSS x0.tables) (fun c => u0 ≤ c ∧ c < wx0.heap.size) (.slice (some ⟨p0_0, 0, none⟩) x0.tables.length x0.tables.length) ∧ W.heap[wx2.heap.size]? = some (.cells #[.int .i64 x2.id, .slice (some ⟨p2_1, 0, none⟩) x2.cells.length x2.cells.length] 38) ∧ Own W (dAtomSS x2.cells) (fun c => u2 ≤ c ∧ c < wx2.heap.size) (.slice (some ⟨p2_1, 0, none⟩) x2.cells.length x2.cells.length) ∧ W.heap[wg.heap.size]? = some (.cells #[.slice ga R0.tables.length gc, .int .i64 R0.next] 32) ∧ Own W (dRowSS R0.tables) (fun c => ug ≤ c ∧ c < wg.heap.size) (.slice ga R0.tables.length gc)) → Frm (fun c => u0 ≤ c ∧ c < wx0.heap.size) W W' → (Own W' ((dRowSS x0.tables).mkd (1)) (fun c => u0 ≤ c ∧ c < wx0.heap.size) (.slice (some ⟨p0_0, 0, none⟩) x0.tables.length x0.tables.length)) → (Below w.heap.size w W' ∧ W'.heap[w.heap.size]? = some (.cells #[.slice a0_0 x0.tables.length c0_0, .int .i64 x0.next] 24) ∧ W'.heap[w.heap.size + 1]? = some (.cells #[.int .i64 x2.id, .slice a2_1 x2.cells.length c2_1] 27) ∧ W'.heap[b0]? = some (.cells #[.slice ra R0.tables.length rc, .int .i64 R0.next] 32) ∧ Rd W' (· < wc.heap.size) (dRowSS R0.tables) (.slice ra R0.tables.length rc) ∧ W'.heap[wx0.heap.size]? = some (.cells #[.slice (some ⟨p0_0, 0, none⟩) x0.tables.length x0.tables.length, .int .i64 x0.next] 32) ∧ Own W' ((dRowSS x0.tables).mkd (1)) (fun c => u0 ≤ c ∧ c < wx0.heap.size) (.slice (some ⟨p0_0, 0, none⟩) x0.tables.length x0.tables.length) ∧ W'.heap[wx2.heap.size]? = some (.cells #[.int .i64 x2.id, .slice (some ⟨p2_1, 0, none⟩) x2.cells.length x2.cells.length] 38) ∧ Own W' (dAtomSS x2.cells) (fun c => u2 ≤ c ∧ c < wx2.heap.size) (.slice (some ⟨p2_1, 0, none⟩) x2.cells.length x2.cells.length) ∧ W'.heap[wg.heap.size]? = some (.cells #[.slice ga R0.tables.length gc, .int .i64 R0.next] 32) ∧ Own W' (dRowSS R0.tables) (fun c => ug ≤ c ∧ c < wg.heap.size) (.slice ga R0.tables.length gc))) := fun W W' h hF ho0 => ⟨h.1.trans (Frm.below hF h.1.size (fun b hb hx => by have h1 := (fun (b : Nat) (hb : u0 ≤ b ∧ b < wx0.heap.size) => hb) b hx; have h2 := ORD.out; omega)), (hF.block _ (Array.getElem?_eq_some_iff.1 h.2.1).1 (fun hx => by have h1 := (fun (b : Nat) (hb : u0 ≤ b ∧ b < wx0.heap.size) => hb) _ hx; have h2 := ORD.out; omega)).trans h.2.1, (hF.block _ (Array.getElem?_eq_some_iff.1 h.2.2.1).1 (fun hx => by have h1 := (fun (b : Nat) (hb : u0 ≤ b ∧ b < wx0.heap.size) => hb) _ hx; have h2 := ORD.out; omega)).trans h.2.2.1, (hF.block _ (Array.getElem?_eq_some_iff.1 h.2.2.2.1).1 (fun hx => by have h1 := (fun (b : Nat) (hb : u0 ≤ b ∧ b < wx0.heap.size) => hb) _ hx; have h2 := ORD.out; omega)).trans h.2.2.2.1, h.2.2.2.2.1.frm hF (fun b hb hx => by have h1 := (fun (b : Nat) (hb : u0 ≤ b ∧ b < wx0.heap.size) => hb) b hx; have h2 := ORD.out; have h3 : b < wc.heap.size := hb; omega), (hF.block _ (Array.getElem?_eq_some_iff.1 h.2.2.2.2.2.1).1 (fun hx => by have h1 := (fun (b : Nat) (hb : u0 ≤ b ∧ b < wx0.heap.size) => hb) _ hx; have h2 := ORD.out; omega)).trans h.2.2.2.2.2.1, ho0, (hF.block _ (Array.getElem?_eq_some_iff.1 h.2.2.2.2.2.2.2.1).1 (fun hx => by have h1 := (fun (b : Nat) (hb : u0 ≤ b ∧ b < wx0.heap.size) => hb) _ hx; have h2 := ORD.out; omega)).trans h.2.2.2.2.2.2.2.1, h.2.2.2.2.2.2.2.2.1.frm hF (fun b hb hx => by have h1 := (fun (b : Nat) (hb : u0 ≤ b ∧ b < wx0.heap.size) => hb) b hx; have h2 := ORD.out; have h3 := (fun (b : Nat) (hb : u2 ≤ b ∧ b < wx2.heap.size) => hb) b hb; omega), (hF.block _ (Array.getElem?_eq_some_iff.1 h.2.2.2.2.2.2.2.2.2.1).1 (fun hx => by have h1 := (fun (b : Nat) (hb : u0 ≤ b ∧ b < wx0.heap.size) => hb) _ hx; have h2 := ORD.out; omega)).trans h.2.2.2.2.2.2.2.2.2.1, h.2.2.2.2.2.2.2.2.2.2.frm hF (fun b hb hx => by have h1 := (fun (b : Nat) (hb : u0 ≤ b ∧ b < wx0.heap.size) => hb) b hx; have h2 := ORD.out; have h3 := (fun (b : Nat) (hb : ug ≤ b ∧ b < wg.heap.size) => hb) b hb; omega)⟩
  refine (mkDStore x0 (some ⟨p0_0, 0, none⟩) x0.tables.length (1) (fun c => u0 ≤ c ∧ c < wx0.heap.size) _ (HO0.out 0 (by omega)) (by omega) (by have g0 := D.wd_le (dRowSS x0.tables) (HO0.out 0 (by omega)); have gz := HZ0.out; rw [szT_Store] at gz; omega) (N3.out.2.2.2.2.2.2.1)).mono ?_
  rintro e wm0 ⟨rfl, ho, hF⟩
  have N4 := Lib.hid (T0F.out _ _ N3.out hF ho)
  clear f_arg0_0 f_arg0_1 f_arg2_0 f_arg2_1 f_w0_0 f_w0_1 f_x0_0 f_x0_1 f_x2_0 f_x2_1 f_g_0 f_g_1
  clear ho hF N3
  have T0L : Hid (∀ W W', (Below w.heap.size w W ∧ W.heap[w.heap.size]? = some (.cells #[.slice a0_0 x0.tables.length c0_0, .int .i64 x0.next] 24) ∧ W.heap[w.heap.size + 1]? = some (.cells #[.int .i64 x2.id, .slice a2_1 x2.cells.length c2_1] 27) ∧ W.heap[b0]? = some (.cells #[.slice ra R0.tables.length rc, .int .i64 R0.next] 32) ∧ Rd W (· < wc.heap.size) (dRowSS R0.tables) (.slice ra R0.tables.length rc) ∧ W.heap[wx0.heap.size]? = some (.cells #[.slice (some ⟨p0_0, 0, none⟩) x0.tables.length x0.tables.length, .int .i64 x0.next] 32) ∧ Own W ((dRowSS x0.tables).mkd (1)) (fun c => u0 ≤ c ∧ c < wx0.heap.size) (.slice (some ⟨p0_0, 0, none⟩) x0.tables.length x0.tables.length) ∧ W.heap[wx2.heap.size]? = some (.cells #[.int .i64 x2.id, .slice (some ⟨p2_1, 0, none⟩) x2.cells.length x2.cells.length] 38) ∧ Own W (dAtomSS x2.cells) (fun c => u2 ≤ c ∧ c < wx2.heap.size) (.slice (some ⟨p2_1, 0, none⟩) x2.cells.length x2.cells.length) ∧ W.heap[wg.heap.size]? = some (.cells #[.slice ga R0.tables.length gc, .int .i64 R0.next] 32) ∧ Own W (dRowSS R0.tables) (fun c => ug ≤ c ∧ c < wg.heap.size) (.slice ga R0.tables.length gc)) → Below W.heap.size W W' → (Below w.heap.size w W' ∧ W'.heap[w.heap.size]? = some (.cells #[.slice a0_0 x0.tables.length c0_0, .int .i64 x0.next] 24) ∧ W'.heap[w.heap.size + 1]? = some (.cells #[.int .i64 x2.id, .slice a2_1 x2.cells.length c2_1] 27) ∧ W'.heap[b0]? = some (.cells #[.slice ra R0.tables.length rc, .int .i64 R0.next] 32) ∧ Rd W' (· < wc.heap.size) (dRowSS R0.tables) (.slice ra R0.tables.length rc) ∧ W'.heap[wx0.heap.size]? = some (.cells #[.slice (some ⟨p0_0, 0, none⟩) x0.tables.length x0.tables.length, .int .i64 x0.next] 32) ∧ Own W' ((dRowSS x0.tables).mkd (1)) (fun c => u0 ≤ c ∧ c < wx0.heap.size) (.slice (some ⟨p0_0, 0, none⟩) x0.tables.length x0.tables.length) ∧ W'.heap[wx2.heap.size]? = some (.cells #[.int .i64 x2.id, .slice (some ⟨p2_1, 0, none⟩) x2.cells.length x2.cells.length] 38) ∧ Own W' (dAtomSS x2.cells) (fun c => u2 ≤ c ∧ c < wx2.heap.size) (.slice (some ⟨p2_1, 0, none⟩) x2.cells.length x2.cells.length) ∧ W'.heap[wg.heap.size]? = some (.cells #[.slice ga R0.tables.length gc, .int .i64 R0.next] 32) ∧ Own W' (dRowSS R0.tables) (fun c => ug ≤ c ∧ c < wg.heap.size) (.slice ga R0.tables.length gc))) := fun W W' h hB => ⟨h.1.trans (hB.mono h.1.size), heap_keptD h.2.1 hB, heap_keptD h.2.2.1 hB, heap_keptD h.2.2.2.1 hB, h.2.2.2.2.1.later hB, heap_keptD h.2.2.2.2.2.1 hB, h.2.2.2.2.2.2.1.later hB, heap_keptD h.2.2.2.2.2.2.2.1 hB, h.2.2.2.2.2.2.2.2.1.later hB, heap_keptD h.2.2.2.2.2.2.2.2.2.1 hB, h.2.2.2.2.2.2.2.2.2.2.later hB⟩
  obtain ⟨k0, hk0⟩ : ∃ y : Nat, y = 1 + (dRowSS x0.tables).wd := ⟨_, rfl⟩
  rw [← hk0]
  have hkb0 : Hid (k0 < 1000000000 ∧ 0 < k0) := by rw [hk0]; have g0 := D.wd_le (dRowSS x0.tables) (HO0.out 0 (by omega)); have gz := HZ0.out; rw [szT_Store] at gz; show _ ∧ _; omega
  have dk0 : decide ((k0 : Int) < 0) = false := by simp
  clear hk0
  have f_arg0_0 := cell_at (o := 0) N4.out.2.1 rfl
  have f_arg0_1 := cell_at (o := 1) N4.out.2.1 rfl
  have f_arg2_0 := cell_at (o := 0) N4.out.2.2.1 rfl
  have f_arg2_1 := cell_at (o := 1) N4.out.2.2.1 rfl
  have f_w0_0 := cell_at (o := 0) N4.out.2.2.2.1 rfl
  have f_w0_1 := cell_at (o := 1) N4.out.2.2.2.1 rfl
  have f_x0_0 := cell_at (o := 0) N4.out.2.2.2.2.2.1 rfl
  have f_x0_1 := cell_at (o := 1) N4.out.2.2.2.2.2.1 rfl
  have f_x2_0 := cell_at (o := 0) N4.out.2.2.2.2.2.2.2.1 rfl
  have f_x2_1 := cell_at (o := 1) N4.out.2.2.2.2.2.2.2.1 rfl
  have f_g_0 := cell_at (o := 0) N4.out.2.2.2.2.2.2.2.2.2.1 rfl
  have f_g_1 := cell_at (o := 1) N4.out.2.2.2.2.2.2.2.2.2.1 rfl
  go_wp2_with fail
  have T2F : Hid (∀ W W', (Below w.heap.size w W ∧ W.heap[w.heap.size]? = some (.cells #[.slice a0_0 x0.tables.length c0_0, .int .i64 x0.next] 24) ∧ W.heap[w.heap.size + 1]? = some (.cells #[.int .i64 x2.id, .slice a2_1 x2.cells.length c2_1] 27) ∧ W.heap[b0]? = some (.cells #[.slice ra R0.tables.length rc, .int .i64 R0.next] 32) ∧ Rd W (· < wc.heap.size) (dRowSS R0.tables) (.slice ra R0.tables.length rc) ∧ W.heap[wx0.heap.size]? = some (.cells #[.slice (some ⟨p0_0, 0, none⟩) x0.tables.length x0.tables.length, .int .i64 x0.next] 32) ∧ Own W ((dRowSS x0.tables).mkd (1)) (fun c => u0 ≤ c ∧ c < wx0.heap.size) (.slice (some ⟨p0_0, 0, none⟩) x0.tables.length x0.tables.length) ∧ W.heap[wx2.heap.size]? = some (.cells #[.int .i64 x2.id, .slice (some ⟨p2_1, 0, none⟩) x2.cells.length x2.cells.length] 38) ∧ Own W (dAtomSS x2.cells) (fun c => u2 ≤ c ∧ c < wx2.heap.size) (.slice (some ⟨p2_1, 0, none⟩) x2.cells.length x2.cells.length) ∧ W.heap[wg.heap.size]? = some (.cells #[.slice ga R0.tables.length gc, .int .i64 R0.next] 32) ∧ Own W (dRowSS R0.tables) (fun c => ug ≤ c ∧ c < wg.heap.size) (.slice ga R0.tables.length gc)) → Frm (fun c => u2 ≤ c ∧ c < wx2.heap.size) W W' → (Own W' ((dAtomSS x2.cells).mkd (k0)) (fun c => u2 ≤ c ∧ c < wx2.heap.size) (.slice (some ⟨p2_1, 0, none⟩) x2.cells.length x2.cells.length)) → (Below w.heap.size w W' ∧ W'.heap[w.heap.size]? = some (.cells #[.slice a0_0 x0.tables.length c0_0, .int .i64 x0.next] 24) ∧ W'.heap[w.heap.size + 1]? = some (.cells #[.int .i64 x2.id, .slice a2_1 x2.cells.length c2_1] 27) ∧ W'.heap[b0]? = some (.cells #[.slice ra R0.tables.length rc, .int .i64 R0.next] 32) ∧ Rd W' (· < wc.heap.size) (dRowSS R0.tables) (.slice ra R0.tables.length rc) ∧ W'.heap[wx0.heap.size]? = some (.cells #[.slice (some ⟨p0_0, 0, none⟩) x0.tables.length x0.tables.length, .int .i64 x0.next] 32) ∧ Own W' ((dRowSS x0.tables).mkd (1)) (fun c => u0 ≤ c ∧ c < wx0.heap.size) (.slice (some ⟨p0_0, 0, none⟩) x0.tables.length x0.tables.length) ∧ W'.heap[wx2.heap.size]? = some (.cells #[.int .i64 x2.id, .slice (some ⟨p2_1, 0, none⟩) x2.cells.length x2.cells.length] 38) ∧ Own W' ((dAtomSS x2.cells).mkd (k0)) (fun c => u2 ≤ c ∧ c < wx2.heap.size) (.slice (some ⟨p2_1, 0, none⟩) x2.cells.length x2.cells.length) ∧ W'.heap[wg.heap.size]? = some (.cells #[.slice ga R0.tables.length gc, .int .i64 R0.next] 32) ∧ Own W' (dRowSS R0.tables) (fun c => ug ≤ c ∧ c < wg.heap.size) (.slice ga R0.tables.length gc))) := fun W W' h hF ho0 => ⟨h.1.trans (Frm.below hF h.1.size (fun b hb hx => by have h1 := (fun (b : Nat) (hb : u2 ≤ b ∧ b < wx2.heap.size) => hb) b hx; have h2 := ORD.out; omega)), (hF.block _ (Array.getElem?_eq_some_iff.1 h.2.1).1 (fun hx => by have h1 := (fun (b : Nat) (hb : u2 ≤ b ∧ b < wx2.heap.size) => hb) _ hx; have h2 := ORD.out; omega)).trans h.2.1, (hF.block _ (Array.getElem?_eq_some_iff.1 h.2.2.1).1 (fun hx => by have h1 := (fun (b : Nat) (hb : u2 ≤ b ∧ b < wx2.heap.size) => hb) _ hx; have h2 := ORD.out; omega)).trans h.2.2.1, (hF.block _ (Array.getElem?_eq_some_iff.1 h.2.2.2.1).1 (fun hx => by have h1 := (fun (b : Nat) (hb : u2 ≤ b ∧ b < wx2.heap.size) => hb) _ hx; have h2 := ORD.out; omega)).trans h.2.2.2.1, h.2.2.2.2.1.frm hF (fun b hb hx => by have h1 := (fun (b : Nat) (hb : u2 ≤ b ∧ b < wx2.heap.size) => hb) b hx; have h2 := ORD.out; have h3 : b < wc.heap.size := hb; omega), (hF.block _ (Array.getElem?_eq_some_iff.1 h.2.2.2.2.2.1).1 (fun hx => by have h1 := (fun (b : Nat) (hb : u2 ≤ b ∧ b < wx2.heap.size) => hb) _ hx; have h2 := ORD.out; omega)).trans h.2.2.2.2.2.1, h.2.2.2.2.2.2.1.frm hF (fun b hb hx => by have h1 := (fun (b : Nat) (hb : u2 ≤ b ∧ b < wx2.heap.size) => hb) b hx; have h2 := ORD.out; have h3 := (fun (b : Nat) (hb : u0 ≤ b ∧ b < wx0.heap.size) => hb) b hb; omega), (hF.block _ (Array.getElem?_eq_some_iff.1 h.2.2.2.2.2.2.2.1).1 (fun hx => by have h1 := (fun (b : Nat) (hb : u2 ≤ b ∧ b < wx2.heap.size) => hb) _ hx; have h2 := ORD.out; omega)).trans h.2.2.2.2.2.2.2.1, ho0, (hF.block _ (Array.getElem?_eq_some_iff.1 h.2.2.2.2.2.2.2.2.2.1).1 (fun hx => by have h1 := (fun (b : Nat) (hb : u2 ≤ b ∧ b < wx2.heap.size) => hb) _ hx; have h2 := ORD.out; omega)).trans h.2.2.2.2.2.2.2.2.2.1, h.2.2.2.2.2.2.2.2.2.2.frm hF (fun b hb hx => by have h1 := (fun (b : Nat) (hb : u2 ≤ b ∧ b < wx2.heap.size) => hb) b hx; have h2 := ORD.out; have h3 := (fun (b : Nat) (hb : ug ≤ b ∧ b < wg.heap.size) => hb) b hb; omega)⟩
  refine (mkDRow x2 (some ⟨p2_1, 0, none⟩) x2.cells.length (k0) (fun c => u2 ≤ c ∧ c < wx2.heap.size) _ (HO2.out 1 (by omega)) (by have gk := hkb0.out; omega) (by have gk := hkb0.out; have g1 := D.wd_le (dAtomSS x2.cells) (HO2.out 1 (by omega)); have gz := HZ2.out; rw [szT_Row] at gz; omega) (N4.out.2.2.2.2.2.2.2.2.1)).mono ?_
  rintro e wm2 ⟨rfl, ho, hF⟩
  have N5 := Lib.hid (T2F.out _ _ N4.out hF ho)
  clear f_arg0_0 f_arg0_1 f_arg2_0 f_arg2_1 f_w0_0 f_w0_1 f_x0_0 f_x0_1 f_x2_0 f_x2_1 f_g_0 f_g_1
  clear ho hF N4
  have T2L : Hid (∀ W W', (Below w.heap.size w W ∧ W.heap[w.heap.size]? = some (.cells #[.slice a0_0 x0.tables.length c0_0, .int .i64 x0.next] 24) ∧ W.heap[w.heap.size + 1]? = some (.cells #[.int .i64 x2.id, .slice a2_1 x2.cells.length c2_1] 27) ∧ W.heap[b0]? = some (.cells #[.slice ra R0.tables.length rc, .int .i64 R0.next] 32) ∧ Rd W (· < wc.heap.size) (dRowSS R0.tables) (.slice ra R0.tables.length rc) ∧ W.heap[wx0.heap.size]? = some (.cells #[.slice (some ⟨p0_0, 0, none⟩) x0.tables.length x0.tables.length, .int .i64 x0.next] 32) ∧ Own W ((dRowSS x0.tables).mkd (1)) (fun c => u0 ≤ c ∧ c < wx0.heap.size) (.slice (some ⟨p0_0, 0, none⟩) x0.tables.length x0.tables.length) ∧ W.heap[wx2.heap.size]? = some (.cells #[.int .i64 x2.id, .slice (some ⟨p2_1, 0, none⟩) x2.cells.length x2.cells.length] 38) ∧ Own W ((dAtomSS x2.cells).mkd (k0)) (fun c => u2 ≤ c ∧ c < wx2.heap.size) (.slice (some ⟨p2_1, 0, none⟩) x2.cells.length x2.cells.length) ∧ W.heap[wg.heap.size]? = some (.cells #[.slice ga R0.tables.length gc, .int .i64 R0.next] 32) ∧ Own W (dRowSS R0.tables) (fun c => ug ≤ c ∧ c < wg.heap.size) (.slice ga R0.tables.length gc)) → Below W.heap.size W W' → (Below w.heap.size w W' ∧ W'.heap[w.heap.size]? = some (.cells #[.slice a0_0 x0.tables.length c0_0, .int .i64 x0.next] 24) ∧ W'.heap[w.heap.size + 1]? = some (.cells #[.int .i64 x2.id, .slice a2_1 x2.cells.length c2_1] 27) ∧ W'.heap[b0]? = some (.cells #[.slice ra R0.tables.length rc, .int .i64 R0.next] 32) ∧ Rd W' (· < wc.heap.size) (dRowSS R0.tables) (.slice ra R0.tables.length rc) ∧ W'.heap[wx0.heap.size]? = some (.cells #[.slice (some ⟨p0_0, 0, none⟩) x0.tables.length x0.tables.length, .int .i64 x0.next] 32) ∧ Own W' ((dRowSS x0.tables).mkd (1)) (fun c => u0 ≤ c ∧ c < wx0.heap.size) (.slice (some ⟨p0_0, 0, none⟩) x0.tables.length x0.tables.length) ∧ W'.heap[wx2.heap.size]? = some (.cells #[.int .i64 x2.id, .slice (some ⟨p2_1, 0, none⟩) x2.cells.length x2.cells.length] 38) ∧ Own W' ((dAtomSS x2.cells).mkd (k0)) (fun c => u2 ≤ c ∧ c < wx2.heap.size) (.slice (some ⟨p2_1, 0, none⟩) x2.cells.length x2.cells.length) ∧ W'.heap[wg.heap.size]? = some (.cells #[.slice ga R0.tables.length gc, .int .i64 R0.next] 32) ∧ Own W' (dRowSS R0.tables) (fun c => ug ≤ c ∧ c < wg.heap.size) (.slice ga R0.tables.length gc))) := fun W W' h hB => ⟨h.1.trans (hB.mono h.1.size), heap_keptD h.2.1 hB, heap_keptD h.2.2.1 hB, heap_keptD h.2.2.2.1 hB, h.2.2.2.2.1.later hB, heap_keptD h.2.2.2.2.2.1 hB, h.2.2.2.2.2.2.1.later hB, heap_keptD h.2.2.2.2.2.2.2.1 hB, h.2.2.2.2.2.2.2.2.1.later hB, heap_keptD h.2.2.2.2.2.2.2.2.2.1 hB, h.2.2.2.2.2.2.2.2.2.2.later hB⟩
  obtain ⟨k2, hk2⟩ : ∃ y : Nat, y = k0 + (dAtomSS x2.cells).wd := ⟨_, rfl⟩
  rw [← hk2]
  have hkb2 : Hid (k2 < 2000000000 ∧ 0 < k2) := by rw [hk2]; have gk := hkb0.out; have g1 := D.wd_le (dAtomSS x2.cells) (HO2.out 1 (by omega)); have gz := HZ2.out; rw [szT_Row] at gz; show _ ∧ _; omega
  have dk2 : decide ((k2 : Int) < 0) = false := by simp
  clear hk2
  have f_arg0_0 := cell_at (o := 0) N5.out.2.1 rfl
  have f_arg0_1 := cell_at (o := 1) N5.out.2.1 rfl
  have f_arg2_0 := cell_at (o := 0) N5.out.2.2.1 rfl
  have f_arg2_1 := cell_at (o := 1) N5.out.2.2.1 rfl
  have f_w0_0 := cell_at (o := 0) N5.out.2.2.2.1 rfl
  have f_w0_1 := cell_at (o := 1) N5.out.2.2.2.1 rfl
  have f_x0_0 := cell_at (o := 0) N5.out.2.2.2.2.2.1 rfl
  have f_x0_1 := cell_at (o := 1) N5.out.2.2.2.2.2.1 rfl
  have f_x2_0 := cell_at (o := 0) N5.out.2.2.2.2.2.2.2.1 rfl
  have f_x2_1 := cell_at (o := 1) N5.out.2.2.2.2.2.2.2.1 rfl
  have f_g_0 := cell_at (o := 0) N5.out.2.2.2.2.2.2.2.2.2.1 rfl
  have f_g_1 := cell_at (o := 1) N5.out.2.2.2.2.2.2.2.2.2.1 rfl
  go_wp2_with fail
  refine (EQR.out _ _ _ _ _ (Rd.any (Own.rd' (N5.out.2.2.2.2.2.2.2.2.2.2))) (Rd.any (N5.out.2.2.2.2.1))).mono ?_
  rintro e wc5 ⟨rfl, hB⟩
  have N6 := Lib.hid (T2L.out _ _ N5.out hB)
  clear f_arg0_0 f_arg0_1 f_arg2_0 f_arg2_1 f_w0_0 f_w0_1 f_x0_0 f_x0_1 f_x2_0 f_x2_1 f_g_0 f_g_1
  clear hB N5
  have f_arg0_0 := cell_at (o := 0) N6.out.2.1 rfl
  have f_arg0_1 := cell_at (o := 1) N6.out.2.1 rfl
  have f_arg2_0 := cell_at (o := 0) N6.out.2.2.1 rfl
  have f_arg2_1 := cell_at (o := 1) N6.out.2.2.1 rfl
  have f_w0_0 := cell_at (o := 0) N6.out.2.2.2.1 rfl
  have f_w0_1 := cell_at (o := 1) N6.out.2.2.2.1 rfl
  have f_x0_0 := cell_at (o := 0) N6.out.2.2.2.2.2.1 rfl
  have f_x0_1 := cell_at (o := 1) N6.out.2.2.2.2.2.1 rfl
  have f_x2_0 := cell_at (o := 0) N6.out.2.2.2.2.2.2.2.1 rfl
  have f_x2_1 := cell_at (o := 1) N6.out.2.2.2.2.2.2.2.1 rfl
  have f_g_0 := cell_at (o := 0) N6.out.2.2.2.2.2.2.2.2.2.1 rfl
  have f_g_1 := cell_at (o := 1) N6.out.2.2.2.2.2.2.2.2.2.1 rfl
  go_wp2_with fail
  have TGF : Hid (∀ W W', (Below w.heap.size w W ∧ W.heap[w.heap.size]? = some (.cells #[.slice a0_0 x0.tables.length c0_0, .int .i64 x0.next] 24) ∧ W.heap[w.heap.size + 1]? = some (.cells #[.int .i64 x2.id, .slice a2_1 x2.cells.length c2_1] 27) ∧ W.heap[b0]? = some (.cells #[.slice ra R0.tables.length rc, .int .i64 R0.next] 32) ∧ Rd W (· < wc.heap.size) (dRowSS R0.tables) (.slice ra R0.tables.length rc) ∧ W.heap[wx0.heap.size]? = some (.cells #[.slice (some ⟨p0_0, 0, none⟩) x0.tables.length x0.tables.length, .int .i64 x0.next] 32) ∧ Own W ((dRowSS x0.tables).mkd (1)) (fun c => u0 ≤ c ∧ c < wx0.heap.size) (.slice (some ⟨p0_0, 0, none⟩) x0.tables.length x0.tables.length) ∧ W.heap[wx2.heap.size]? = some (.cells #[.int .i64 x2.id, .slice (some ⟨p2_1, 0, none⟩) x2.cells.length x2.cells.length] 38) ∧ Own W ((dAtomSS x2.cells).mkd (k0)) (fun c => u2 ≤ c ∧ c < wx2.heap.size) (.slice (some ⟨p2_1, 0, none⟩) x2.cells.length x2.cells.length) ∧ W.heap[wg.heap.size]? = some (.cells #[.slice ga R0.tables.length gc, .int .i64 R0.next] 32) ∧ Own W (dRowSS R0.tables) (fun c => ug ≤ c ∧ c < wg.heap.size) (.slice ga R0.tables.length gc)) → Frm (fun c => ug ≤ c ∧ c < wg.heap.size) W W' → (Own W' ((dRowSS R0.tables).mkd 1) (fun c => ug ≤ c ∧ c < wg.heap.size) (.slice ga R0.tables.length gc)) → (Below w.heap.size w W' ∧ W'.heap[w.heap.size]? = some (.cells #[.slice a0_0 x0.tables.length c0_0, .int .i64 x0.next] 24) ∧ W'.heap[w.heap.size + 1]? = some (.cells #[.int .i64 x2.id, .slice a2_1 x2.cells.length c2_1] 27) ∧ W'.heap[b0]? = some (.cells #[.slice ra R0.tables.length rc, .int .i64 R0.next] 32) ∧ Rd W' (· < wc.heap.size) (dRowSS R0.tables) (.slice ra R0.tables.length rc) ∧ W'.heap[wx0.heap.size]? = some (.cells #[.slice (some ⟨p0_0, 0, none⟩) x0.tables.length x0.tables.length, .int .i64 x0.next] 32) ∧ Own W' ((dRowSS x0.tables).mkd (1)) (fun c => u0 ≤ c ∧ c < wx0.heap.size) (.slice (some ⟨p0_0, 0, none⟩) x0.tables.length x0.tables.length) ∧ W'.heap[wx2.heap.size]? = some (.cells #[.int .i64 x2.id, .slice (some ⟨p2_1, 0, none⟩) x2.cells.length x2.cells.length] 38) ∧ Own W' ((dAtomSS x2.cells).mkd (k0)) (fun c => u2 ≤ c ∧ c < wx2.heap.size) (.slice (some ⟨p2_1, 0, none⟩) x2.cells.length x2.cells.length) ∧ W'.heap[wg.heap.size]? = some (.cells #[.slice ga R0.tables.length gc, .int .i64 R0.next] 32) ∧ Own W' ((dRowSS R0.tables).mkd 1) (fun c => ug ≤ c ∧ c < wg.heap.size) (.slice ga R0.tables.length gc))) := fun W W' h hF ho0 => ⟨h.1.trans (Frm.below hF h.1.size (fun b hb hx => by have h1 := (fun (b : Nat) (hb : ug ≤ b ∧ b < wg.heap.size) => hb) b hx; have h2 := ORD.out; omega)), (hF.block _ (Array.getElem?_eq_some_iff.1 h.2.1).1 (fun hx => by have h1 := (fun (b : Nat) (hb : ug ≤ b ∧ b < wg.heap.size) => hb) _ hx; have h2 := ORD.out; omega)).trans h.2.1, (hF.block _ (Array.getElem?_eq_some_iff.1 h.2.2.1).1 (fun hx => by have h1 := (fun (b : Nat) (hb : ug ≤ b ∧ b < wg.heap.size) => hb) _ hx; have h2 := ORD.out; omega)).trans h.2.2.1, (hF.block _ (Array.getElem?_eq_some_iff.1 h.2.2.2.1).1 (fun hx => by have h1 := (fun (b : Nat) (hb : ug ≤ b ∧ b < wg.heap.size) => hb) _ hx; have h2 := ORD.out; omega)).trans h.2.2.2.1, h.2.2.2.2.1.frm hF (fun b hb hx => by have h1 := (fun (b : Nat) (hb : ug ≤ b ∧ b < wg.heap.size) => hb) b hx; have h2 := ORD.out; have h3 : b < wc.heap.size := hb; omega), (hF.block _ (Array.getElem?_eq_some_iff.1 h.2.2.2.2.2.1).1 (fun hx => by have h1 := (fun (b : Nat) (hb : ug ≤ b ∧ b < wg.heap.size) => hb) _ hx; have h2 := ORD.out; omega)).trans h.2.2.2.2.2.1, h.2.2.2.2.2.2.1.frm hF (fun b hb hx => by have h1 := (fun (b : Nat) (hb : ug ≤ b ∧ b < wg.heap.size) => hb) b hx; have h2 := ORD.out; have h3 := (fun (b : Nat) (hb : u0 ≤ b ∧ b < wx0.heap.size) => hb) b hb; omega), (hF.block _ (Array.getElem?_eq_some_iff.1 h.2.2.2.2.2.2.2.1).1 (fun hx => by have h1 := (fun (b : Nat) (hb : ug ≤ b ∧ b < wg.heap.size) => hb) _ hx; have h2 := ORD.out; omega)).trans h.2.2.2.2.2.2.2.1, h.2.2.2.2.2.2.2.2.1.frm hF (fun b hb hx => by have h1 := (fun (b : Nat) (hb : ug ≤ b ∧ b < wg.heap.size) => hb) b hx; have h2 := ORD.out; have h3 := (fun (b : Nat) (hb : u2 ≤ b ∧ b < wx2.heap.size) => hb) b hb; omega), (hF.block _ (Array.getElem?_eq_some_iff.1 h.2.2.2.2.2.2.2.2.2.1).1 (fun hx => by have h1 := (fun (b : Nat) (hb : ug ≤ b ∧ b < wg.heap.size) => hb) _ hx; have h2 := ORD.out; omega)).trans h.2.2.2.2.2.2.2.2.2.1, ho0⟩
  refine (mkDStore R0 ga gc 1 (fun c => ug ≤ c ∧ c < wg.heap.size) _ (HRB.out.1 0 (by omega)) (by omega) HRW.out (N6.out.2.2.2.2.2.2.2.2.2.2)).mono ?_
  rintro e wmg ⟨rfl, ho, hF⟩
  have N7 := Lib.hid (TGF.out _ _ N6.out hF ho)
  clear f_arg0_0 f_arg0_1 f_arg2_0 f_arg2_1 f_w0_0 f_w0_1 f_x0_0 f_x0_1 f_x2_0 f_x2_1 f_g_0 f_g_1
  clear ho hF N6
  have TGL : Hid (∀ W W', (Below w.heap.size w W ∧ W.heap[w.heap.size]? = some (.cells #[.slice a0_0 x0.tables.length c0_0, .int .i64 x0.next] 24) ∧ W.heap[w.heap.size + 1]? = some (.cells #[.int .i64 x2.id, .slice a2_1 x2.cells.length c2_1] 27) ∧ W.heap[b0]? = some (.cells #[.slice ra R0.tables.length rc, .int .i64 R0.next] 32) ∧ Rd W (· < wc.heap.size) (dRowSS R0.tables) (.slice ra R0.tables.length rc) ∧ W.heap[wx0.heap.size]? = some (.cells #[.slice (some ⟨p0_0, 0, none⟩) x0.tables.length x0.tables.length, .int .i64 x0.next] 32) ∧ Own W ((dRowSS x0.tables).mkd (1)) (fun c => u0 ≤ c ∧ c < wx0.heap.size) (.slice (some ⟨p0_0, 0, none⟩) x0.tables.length x0.tables.length) ∧ W.heap[wx2.heap.size]? = some (.cells #[.int .i64 x2.id, .slice (some ⟨p2_1, 0, none⟩) x2.cells.length x2.cells.length] 38) ∧ Own W ((dAtomSS x2.cells).mkd (k0)) (fun c => u2 ≤ c ∧ c < wx2.heap.size) (.slice (some ⟨p2_1, 0, none⟩) x2.cells.length x2.cells.length) ∧ W.heap[wg.heap.size]? = some (.cells #[.slice ga R0.tables.length gc, .int .i64 R0.next] 32) ∧ Own W ((dRowSS R0.tables).mkd 1) (fun c => ug ≤ c ∧ c < wg.heap.size) (.slice ga R0.tables.length gc)) → Below W.heap.size W W' → (Below w.heap.size w W' ∧ W'.heap[w.heap.size]? = some (.cells #[.slice a0_0 x0.tables.length c0_0, .int .i64 x0.next] 24) ∧ W'.heap[w.heap.size + 1]? = some (.cells #[.int .i64 x2.id, .slice a2_1 x2.cells.length c2_1] 27) ∧ W'.heap[b0]? = some (.cells #[.slice ra R0.tables.length rc, .int .i64 R0.next] 32) ∧ Rd W' (· < wc.heap.size) (dRowSS R0.tables) (.slice ra R0.tables.length rc) ∧ W'.heap[wx0.heap.size]? = some (.cells #[.slice (some ⟨p0_0, 0, none⟩) x0.tables.length x0.tables.length, .int .i64 x0.next] 32) ∧ Own W' ((dRowSS x0.tables).mkd (1)) (fun c => u0 ≤ c ∧ c < wx0.heap.size) (.slice (some ⟨p0_0, 0, none⟩) x0.tables.length x0.tables.length) ∧ W'.heap[wx2.heap.size]? = some (.cells #[.int .i64 x2.id, .slice (some ⟨p2_1, 0, none⟩) x2.cells.length x2.cells.length] 38) ∧ Own W' ((dAtomSS x2.cells).mkd (k0)) (fun c => u2 ≤ c ∧ c < wx2.heap.size) (.slice (some ⟨p2_1, 0, none⟩) x2.cells.length x2.cells.length) ∧ W'.heap[wg.heap.size]? = some (.cells #[.slice ga R0.tables.length gc, .int .i64 R0.next] 32) ∧ Own W' ((dRowSS R0.tables).mkd 1) (fun c => ug ≤ c ∧ c < wg.heap.size) (.slice ga R0.tables.length gc))) := fun W W' h hB => ⟨h.1.trans (hB.mono h.1.size), heap_keptD h.2.1 hB, heap_keptD h.2.2.1 hB, heap_keptD h.2.2.2.1 hB, h.2.2.2.2.1.later hB, heap_keptD h.2.2.2.2.2.1 hB, h.2.2.2.2.2.2.1.later hB, heap_keptD h.2.2.2.2.2.2.2.1 hB, h.2.2.2.2.2.2.2.2.1.later hB, heap_keptD h.2.2.2.2.2.2.2.2.2.1 hB, h.2.2.2.2.2.2.2.2.2.2.later hB⟩
  have HD : Hid (∀ (W : World), Rd W (fun _ => True) ((dRowSS R0.tables).mkd 1) (.slice ga R0.tables.length gc) → Calls Try.prog 15 #[.agg #[.slice ga R0.tables.length gc, .int .i64 R0.next], .int .i64 1] W fun e w' => e = .returned (.int .i64 (1 + (dRowSS R0.tables).wd : Nat)) ∧ Below W.heap.size W w') := fun W h => hdDStore R0 ga gc 1 _ W (HRB.out.1 0 (by omega)) (by omega) HRW.out h
  obtain ⟨kg, hkg⟩ : ∃ y : Nat, y = 1 + (dRowSS R0.tables).wd := ⟨_, rfl⟩
  rw [← hkg] at HD ⊢
  have dkg : decide ((kg : Int) < 0) = false := by simp
  have nkg : ((kg : Int) != (kg : Int)) = false := by simp
  clear hkg
  have f_arg0_0 := cell_at (o := 0) N7.out.2.1 rfl
  have f_arg0_1 := cell_at (o := 1) N7.out.2.1 rfl
  have f_arg2_0 := cell_at (o := 0) N7.out.2.2.1 rfl
  have f_arg2_1 := cell_at (o := 1) N7.out.2.2.1 rfl
  have f_w0_0 := cell_at (o := 0) N7.out.2.2.2.1 rfl
  have f_w0_1 := cell_at (o := 1) N7.out.2.2.2.1 rfl
  have f_x0_0 := cell_at (o := 0) N7.out.2.2.2.2.2.1 rfl
  have f_x0_1 := cell_at (o := 1) N7.out.2.2.2.2.2.1 rfl
  have f_x2_0 := cell_at (o := 0) N7.out.2.2.2.2.2.2.2.1 rfl
  have f_x2_1 := cell_at (o := 1) N7.out.2.2.2.2.2.2.2.1 rfl
  have f_g_0 := cell_at (o := 0) N7.out.2.2.2.2.2.2.2.2.2.1 rfl
  have f_g_1 := cell_at (o := 1) N7.out.2.2.2.2.2.2.2.2.2.1 rfl
  go_wp2_with fail
  refine (HD.out _ (Rd.any (Own.rd' (N7.out.2.2.2.2.2.2.2.2.2.2)))).mono ?_
  rintro e wh7 ⟨rfl, hB⟩
  have N8 := Lib.hid (TGL.out _ _ N7.out hB)
  clear f_arg0_0 f_arg0_1 f_arg2_0 f_arg2_1 f_w0_0 f_w0_1 f_x0_0 f_x0_1 f_x2_0 f_x2_1 f_g_0 f_g_1
  clear hB N7
  have f_arg0_0 := cell_at (o := 0) N8.out.2.1 rfl
  have f_arg0_1 := cell_at (o := 1) N8.out.2.1 rfl
  have f_arg2_0 := cell_at (o := 0) N8.out.2.2.1 rfl
  have f_arg2_1 := cell_at (o := 1) N8.out.2.2.1 rfl
  have f_w0_0 := cell_at (o := 0) N8.out.2.2.2.1 rfl
  have f_w0_1 := cell_at (o := 1) N8.out.2.2.2.1 rfl
  have f_x0_0 := cell_at (o := 0) N8.out.2.2.2.2.2.1 rfl
  have f_x0_1 := cell_at (o := 1) N8.out.2.2.2.2.2.1 rfl
  have f_x2_0 := cell_at (o := 0) N8.out.2.2.2.2.2.2.2.1 rfl
  have f_x2_1 := cell_at (o := 1) N8.out.2.2.2.2.2.2.2.1 rfl
  have f_g_0 := cell_at (o := 0) N8.out.2.2.2.2.2.2.2.2.2.1 rfl
  have f_g_1 := cell_at (o := 1) N8.out.2.2.2.2.2.2.2.2.2.1 rfl
  go_upto_region 31 with fail
  have HST : Hid (∀ W, Below wh7.heap.size wh7 W → (Below w.heap.size w W ∧ W.heap[w.heap.size]? = some (.cells #[.slice a0_0 x0.tables.length c0_0, .int .i64 x0.next] 24) ∧ W.heap[w.heap.size + 1]? = some (.cells #[.int .i64 x2.id, .slice a2_1 x2.cells.length c2_1] 27) ∧ W.heap[b0]? = some (.cells #[.slice ra R0.tables.length rc, .int .i64 R0.next] 32) ∧ Rd W (· < wc.heap.size) (dRowSS R0.tables) (.slice ra R0.tables.length rc) ∧ W.heap[wx0.heap.size]? = some (.cells #[.slice (some ⟨p0_0, 0, none⟩) x0.tables.length x0.tables.length, .int .i64 x0.next] 32) ∧ Own W ((dRowSS x0.tables).mkd (1)) (fun c => u0 ≤ c ∧ c < wx0.heap.size) (.slice (some ⟨p0_0, 0, none⟩) x0.tables.length x0.tables.length) ∧ W.heap[wx2.heap.size]? = some (.cells #[.int .i64 x2.id, .slice (some ⟨p2_1, 0, none⟩) x2.cells.length x2.cells.length] 38) ∧ Own W ((dAtomSS x2.cells).mkd (k0)) (fun c => u2 ≤ c ∧ c < wx2.heap.size) (.slice (some ⟨p2_1, 0, none⟩) x2.cells.length x2.cells.length) ∧ W.heap[wg.heap.size]? = some (.cells #[.slice ga R0.tables.length gc, .int .i64 R0.next] 32) ∧ Own W ((dRowSS R0.tables).mkd 1) (fun c => ug ≤ c ∧ c < wg.heap.size) (.slice ga R0.tables.length gc))) := fun W h => TGL.out _ _ N8.out h
  have CE : Hid (∀ W, (Below w.heap.size w W ∧ W.heap[w.heap.size]? = some (.cells #[.slice a0_0 x0.tables.length c0_0, .int .i64 x0.next] 24) ∧ W.heap[w.heap.size + 1]? = some (.cells #[.int .i64 x2.id, .slice a2_1 x2.cells.length c2_1] 27) ∧ W.heap[b0]? = some (.cells #[.slice ra R0.tables.length rc, .int .i64 R0.next] 32) ∧ Rd W (· < wc.heap.size) (dRowSS R0.tables) (.slice ra R0.tables.length rc) ∧ W.heap[wx0.heap.size]? = some (.cells #[.slice (some ⟨p0_0, 0, none⟩) x0.tables.length x0.tables.length, .int .i64 x0.next] 32) ∧ Own W ((dRowSS x0.tables).mkd (1)) (fun c => u0 ≤ c ∧ c < wx0.heap.size) (.slice (some ⟨p0_0, 0, none⟩) x0.tables.length x0.tables.length) ∧ W.heap[wx2.heap.size]? = some (.cells #[.int .i64 x2.id, .slice (some ⟨p2_1, 0, none⟩) x2.cells.length x2.cells.length] 38) ∧ Own W ((dAtomSS x2.cells).mkd (k0)) (fun c => u2 ≤ c ∧ c < wx2.heap.size) (.slice (some ⟨p2_1, 0, none⟩) x2.cells.length x2.cells.length) ∧ W.heap[wg.heap.size]? = some (.cells #[.slice ga R0.tables.length gc, .int .i64 R0.next] 32) ∧ Own W ((dRowSS R0.tables).mkd 1) (fun c => ug ≤ c ∧ c < wg.heap.size) (.slice ga R0.tables.length gc)) → (W.cell? ⟨w.heap.size, 0, none⟩ = some (.slice a0_0 x0.tables.length c0_0) ∧ W.cell? ⟨w.heap.size, 1, none⟩ = some (.int .i64 x0.next) ∧ W.cell? ⟨w.heap.size + 1, 0, none⟩ = some (.int .i64 x2.id) ∧ W.cell? ⟨w.heap.size + 1, 1, none⟩ = some (.slice a2_1 x2.cells.length c2_1))) := fun W h => ⟨cell_at (o := 0) h.2.1 rfl, cell_at (o := 1) h.2.1 rfl, cell_at (o := 0) h.2.2.1 rfl, cell_at (o := 1) h.2.2.1 rfl⟩
  have HSX : Hid (∀ W, (Below w.heap.size w W ∧ W.heap[w.heap.size]? = some (.cells #[.slice a0_0 x0.tables.length c0_0, .int .i64 x0.next] 24) ∧ W.heap[w.heap.size + 1]? = some (.cells #[.int .i64 x2.id, .slice a2_1 x2.cells.length c2_1] 27) ∧ W.heap[b0]? = some (.cells #[.slice ra R0.tables.length rc, .int .i64 R0.next] 32) ∧ Rd W (· < wc.heap.size) (dRowSS R0.tables) (.slice ra R0.tables.length rc) ∧ W.heap[wx0.heap.size]? = some (.cells #[.slice (some ⟨p0_0, 0, none⟩) x0.tables.length x0.tables.length, .int .i64 x0.next] 32) ∧ Own W ((dRowSS x0.tables).mkd (1)) (fun c => u0 ≤ c ∧ c < wx0.heap.size) (.slice (some ⟨p0_0, 0, none⟩) x0.tables.length x0.tables.length) ∧ W.heap[wx2.heap.size]? = some (.cells #[.int .i64 x2.id, .slice (some ⟨p2_1, 0, none⟩) x2.cells.length x2.cells.length] 38) ∧ Own W ((dAtomSS x2.cells).mkd (k0)) (fun c => u2 ≤ c ∧ c < wx2.heap.size) (.slice (some ⟨p2_1, 0, none⟩) x2.cells.length x2.cells.length) ∧ W.heap[wg.heap.size]? = some (.cells #[.slice ga R0.tables.length gc, .int .i64 R0.next] 32) ∧ Own W ((dRowSS R0.tables).mkd 1) (fun c => ug ≤ c ∧ c < wg.heap.size) (.slice ga R0.tables.length gc)) → (Below w.heap.size w W ∧ W.heap[w.heap.size]? = some (.cells #[.slice a0_0 x0.tables.length c0_0, .int .i64 x0.next] 24) ∧ W.heap[w.heap.size + 1]? = some (.cells #[.int .i64 x2.id, .slice a2_1 x2.cells.length c2_1] 27))) := fun W h => ⟨h.1, h.2.1, h.2.2.1⟩
  clear N8 f_arg0_0 f_arg0_1 f_arg2_0 f_arg2_1 f_w0_0 f_w0_1 f_x0_0 f_x0_1 f_x2_0 f_x2_1 f_g_0 f_g_1
  go_cut [17, 18] from 98 to 106 (fun s0 s1 wx => ∃ (ya : Option Addr) (yc b1 : Nat), s0 = .pointer (some ⟨b1, 0, none⟩) ∧ s1 = .int .i64 R1 ∧ Hid ((Below w.heap.size w wx ∧ wx.heap[w.heap.size]? = some (.cells #[.slice a0_0 x0.tables.length c0_0, .int .i64 x0.next] 24) ∧ wx.heap[w.heap.size + 1]? = some (.cells #[.int .i64 x2.id, .slice a2_1 x2.cells.length c2_1] 27) ∧ wx.heap[b0]? = some (.cells #[.slice ra R0.tables.length rc, .int .i64 R0.next] 32) ∧ Rd wx (· < wc.heap.size) (dRowSS R0.tables) (.slice ra R0.tables.length rc) ∧ wx.heap[wx0.heap.size]? = some (.cells #[.slice (some ⟨p0_0, 0, none⟩) x0.tables.length x0.tables.length, .int .i64 x0.next] 32) ∧ Own wx ((dRowSS x0.tables).mkd (1)) (fun c => u0 ≤ c ∧ c < wx0.heap.size) (.slice (some ⟨p0_0, 0, none⟩) x0.tables.length x0.tables.length) ∧ wx.heap[wx2.heap.size]? = some (.cells #[.int .i64 x2.id, .slice (some ⟨p2_1, 0, none⟩) x2.cells.length x2.cells.length] 38) ∧ Own wx ((dAtomSS x2.cells).mkd (k0)) (fun c => u2 ≤ c ∧ c < wx2.heap.size) (.slice (some ⟨p2_1, 0, none⟩) x2.cells.length x2.cells.length) ∧ wx.heap[wg.heap.size]? = some (.cells #[.slice ga R0.tables.length gc, .int .i64 R0.next] 32) ∧ Own wx ((dRowSS R0.tables).mkd 1) (fun c => ug ≤ c ∧ c < wg.heap.size) (.slice ga R0.tables.length gc)) ∧ wx.heap[b1]? = some (.cells #[.slice ya R0.tables.length yc, .int .i64 R0.next] 32) ∧ Rd wx (fun _ => True) (dRowSS R0.tables) (.slice ya R0.tables.length yc)))
  case first =>
    have BS : Hid (Below wh7.heap.size wh7 wh7) := Below.refl _ _
    refine wp_region_held_drew (S := (fun W => W.cell? ⟨w.heap.size, 0, none⟩ = some (.slice a0_0 x0.tables.length c0_0) ∧ W.cell? ⟨w.heap.size, 1, none⟩ = some (.int .i64 x0.next) ∧ W.cell? ⟨w.heap.size + 1, 0, none⟩ = some (.int .i64 x2.id) ∧ W.cell? ⟨w.heap.size + 1, 1, none⟩ = some (.slice a2_1 x2.cells.length c2_1))) (by kernel_rfl) ?_ (fun hHeld => ?_)
    · (first | exact CE.out _ (HST.out _ BS.out) | exact CE.out _ (HST.out _ BS.out.drew))
    refine wpAnyH_take (i := 0) (v := ?_) rfl (by kernel_rfl) (by kernel_rfl) (by kernel_rfl) (fun _ _ _ h => h) (Or.inl ⟨by kernel_rfl, ?_⟩) (by assumption) ?_
    rotate_left
    · (intro wS hSw; (try dsimp only at hSw); go_simp <;> with_reducible rfl)
    try simp only [Act.put, List.getElem_toArray, List.getElem_cons_succ, List.getElem_cons_zero, List.setIfInBounds_toArray, List.set_cons_zero, List.set_cons_succ]
    refine wpAnyH_take (i := 2) (v := ?_) rfl (by kernel_rfl) (by kernel_rfl) (by kernel_rfl) (fun _ _ _ h => h) (Or.inl ⟨by kernel_rfl, ?_⟩) (by assumption) ?_
    rotate_left
    · (intro wS hSw; (try dsimp only at hSw); go_simp <;> with_reducible rfl)
    try simp only [Act.put, List.getElem_toArray, List.getElem_cons_succ, List.getElem_cons_zero, List.setIfInBounds_toArray, List.set_cons_zero, List.set_cons_succ]
    refine wpAnyH_take (i := 3) (v := ?_) rfl (by kernel_rfl) (by kernel_rfl) (by kernel_rfl) (fun _ _ _ h => h) (Or.inl ⟨by kernel_rfl, ?_⟩) (by assumption) ?_
    rotate_left
    · (intro wS hSw; (try dsimp only at hSw); go_simp <;> with_reducible rfl)
    try simp only [Act.put, List.getElem_toArray, List.getElem_cons_succ, List.getElem_cons_zero, List.setIfInBounds_toArray, List.set_cons_zero, List.set_cons_succ]
    refine wpAnyH_ready (rs := [1, 9]) (by kernel_rfl) (by simp) (AllReadyH.cons rfl (fun K hK => ?_) (AllReadyH.cons rfl (fun K hK => ?_) AllReadyH.nil))
    ·
      go_simp
      go_at_call 8
      refine (TO0.out _ (by first | exact HSX.out _ (HST.out _ BS.out) | exact HSX.out _ (HST.out _ BS.out.drew))).mono ?_
      rintro e wt0 ⟨p0_0, rfl, ho, hB, -⟩
      have hb : Below wh7.heap.size wh7 wt0 := by first | exact hB | exact (Below.refl _ _).drew.trans hB
      have BS' : Hid (Below wh7.heap.size wh7 wt0) := BS.out.trans (hb.mono BS.out.size)
      clear BS
      have BS := BS'
      clear BS'
      have RC0_0 : Hid (∀ W, Below wt0.heap.size wt0 W → Rd W (fun _ => True) (dRowSS x0.tables) (.slice (some ⟨p0_0, 0, none⟩) x0.tables.length x0.tables.length)) := fun W h => Rd.later ((Owns.one ho (j := 0) (by omega)).rd'.any) h
      have BC0 : Hid (Below wt0.heap.size wt0 wt0) := Below.refl _ _
      clear hb hB ho
      refine hK.out _ _ ?_ (fun hHeld => ?_)
      · (first | exact CE.out _ (HST.out _ BS.out) | exact CE.out _ (HST.out _ BS.out.drew))
      clear hK K
      try simp only [Act.put, List.getElem_toArray, List.getElem_cons_succ, List.getElem_cons_zero, List.setIfInBounds_toArray, List.set_cons_zero, List.set_cons_succ]
      refine wpAnyH_ready (rs := [4, 9]) (by kernel_rfl) (by simp) (AllReadyH.cons rfl (fun K hK => ?_) (AllReadyH.cons rfl (fun K hK => ?_) AllReadyH.nil))
      ·
        go_simp
        go_at_call 9
        refine (TO2.out _ (by first | exact HSX.out _ (HST.out _ BS.out) | exact HSX.out _ (HST.out _ BS.out.drew))).mono ?_
        rintro e wt2 ⟨p2_1, rfl, ho, hB, -⟩
        have hb : Below wt0.heap.size wt0 wt2 := by first | exact hB | exact (Below.refl _ _).drew.trans hB
        have BS' : Hid (Below wh7.heap.size wh7 wt2) := BS.out.trans (hb.mono BS.out.size)
        clear BS
        have BS := BS'
        clear BS'
        have BC0' : Hid (Below wt0.heap.size wt0 wt2) := BC0.out.trans (hb.mono BC0.out.size)
        clear BC0
        have BC0 := BC0'
        clear BC0'
        have RC2_1 : Hid (∀ W, Below wt2.heap.size wt2 W → Rd W (fun _ => True) (dAtomSS x2.cells) (.slice (some ⟨p2_1, 0, none⟩) x2.cells.length x2.cells.length)) := fun W h => Rd.later ((Owns.one ho (j := 1) (by omega)).rd'.any) h
        have BC2 : Hid (Below wt2.heap.size wt2 wt2) := Below.refl _ _
        clear hb hB ho
        refine hK.out _ _ ?_ (fun hHeld => ?_)
        · (first | exact CE.out _ (HST.out _ BS.out) | exact CE.out _ (HST.out _ BS.out.drew))
        clear hK K
        try simp only [Act.put, List.getElem_toArray, List.getElem_cons_succ, List.getElem_cons_zero, List.setIfInBounds_toArray, List.set_cons_zero, List.set_cons_succ]
        refine wpAnyH_ready (rs := [5, 9]) (by kernel_rfl) (by simp) (AllReadyH.cons rfl (fun K hK => ?_) (AllReadyH.cons rfl (fun K hK => ?_) AllReadyH.nil))
        ·
          go_simp
          go_at_call 10
          refine (CI.out _ _ _ _ _ (by first | exact RC0_0.out _ BC0.out | exact RC0_0.out _ BC0.out.drew) (by first | exact RC2_1.out _ BC2.out | exact RC2_1.out _ BC2.out.drew)).mono ?_
          rintro e w2 ⟨ya, yc, rfl, hr2, hB⟩
          replace hr2 := Own.rd' hr2
          have hb : Below wt2.heap.size wt2 w2 := by first | exact hB | exact (Below.refl _ _).drew.trans hB
          have BS' : Hid (Below wh7.heap.size wh7 w2) := BS.out.trans (hb.mono BS.out.size)
          clear BS
          have BS := BS'
          clear BS'
          have BC0' : Hid (Below wt0.heap.size wt0 w2) := BC0.out.trans (hb.mono BC0.out.size)
          clear BC0
          have BC0 := BC0'
          clear BC0'
          have BC2' : Hid (Below wt2.heap.size wt2 w2) := BC2.out.trans (hb.mono BC2.out.size)
          clear BC2
          have BC2 := BC2'
          clear BC2'
          have HR2 : Hid (Rd w2 (fun b => wt2.heap.size ≤ b ∧ b < w2.heap.size) (dRowSS R0.tables) (.slice ya R0.tables.length yc)) := by first | exact hr2 | (simpa using hr2)
          clear hb hB hr2
          refine hK.out _ _ ?_ (fun hHeld => ?_)
          · (first | exact CE.out _ (HST.out _ BS.out) | exact CE.out _ (HST.out _ BS.out.drew))
          clear hK K
          try simp only [Act.put, List.getElem_toArray, List.getElem_cons_succ, List.getElem_cons_zero, List.setIfInBounds_toArray, List.set_cons_zero, List.set_cons_succ]
          refine wpAnyH_take (i := 6) (v := ?_) rfl (by kernel_rfl) (by kernel_rfl) (by kernel_rfl) (fun _ _ _ h => h) (Or.inl ⟨by kernel_rfl, ?_⟩) (by assumption) ?_
          rotate_left
          · (intro wS hSw; (try dsimp only at hSw); go_simp <;> with_reducible rfl)
          try simp only [Act.put, List.getElem_toArray, List.getElem_cons_succ, List.getElem_cons_zero, List.setIfInBounds_toArray, List.set_cons_zero, List.set_cons_succ]
          refine wpAnyH_take (i := 7) (v := ?_) rfl (by kernel_rfl) (by kernel_rfl) (by kernel_rfl) (fun _ _ _ h => h) (Or.inl ⟨by kernel_rfl, ?_⟩) (by assumption) ?_
          rotate_left
          · (intro wS hSw; (try dsimp only at hSw); go_simp <;> with_reducible rfl)
          try simp only [Act.put, List.getElem_toArray, List.getElem_cons_succ, List.getElem_cons_zero, List.setIfInBounds_toArray, List.set_cons_zero, List.set_cons_succ]
          refine wpAnyH_take (i := 8) (v := ?_) rfl (by kernel_rfl) (by kernel_rfl) (by kernel_rfl) (fun _ _ _ h => h) (Or.inl ⟨by kernel_rfl, ?_⟩) (by assumption) ?_
          rotate_left
          · (intro wS hSw; (try dsimp only at hSw); go_simp <;> with_reducible rfl)
          try simp only [Act.put, List.getElem_toArray, List.getElem_cons_succ, List.getElem_cons_zero, List.setIfInBounds_toArray, List.set_cons_zero, List.set_cons_succ]
          refine wpAnyH_ready (rs := [9]) (by kernel_rfl) (by simp) (AllReadyH.cons rfl (fun K hK => ?_) AllReadyH.nil)
          go_simp
          have BSW : Hid (Below wh7.heap.size wh7 w2) := BS.out
          have BS' : Hid (Below wh7.heap.size wh7 (w2.alloc (.cells #[.slice none 0 0, .int .i64 0] 32))) := BS.out.alloc BS.out.size _
          clear BS
          have BS := BS'
          clear BS'
          have BC0' : Hid (Below wt0.heap.size wt0 (w2.alloc (.cells #[.slice none 0 0, .int .i64 0] 32))) := BC0.out.alloc BC0.out.size _
          clear BC0
          have BC0 := BC0'
          clear BC0'
          have BC2' : Hid (Below wt2.heap.size wt2 (w2.alloc (.cells #[.slice none 0 0, .int .i64 0] 32))) := BC2.out.alloc BC2.out.size _
          clear BC2
          have BC2 := BC2'
          clear BC2'
          have HZ : Hid (∀ W, Below (w2.alloc (.cells #[.slice none 0 0, .int .i64 0] 32)).heap.size (w2.alloc (.cells #[.slice none 0 0, .int .i64 0] 32)) W → W.heap[w2.heap.size]? = some (.cells #[.slice none 0 0, .int .i64 0] 32)) := fun W h => heap_keptD (heap_newD _ _) h
          have BA : Hid (Below (w2.alloc (.cells #[.slice none 0 0, .int .i64 0] 32)).heap.size (w2.alloc (.cells #[.slice none 0 0, .int .i64 0] 32)) (w2.alloc (.cells #[.slice none 0 0, .int .i64 0] 32))) := Below.refl _ _
          refine hK.out _ _ ?_ (fun hHeld => ?_)
          · (first | exact CE.out _ (HST.out _ BS.out) | exact CE.out _ (HST.out _ BS.out.drew))
          clear hK K
          try simp only [Act.put, List.getElem_toArray, List.getElem_cons_succ, List.getElem_cons_zero, List.setIfInBounds_toArray, List.set_cons_zero, List.set_cons_succ]
          refine wpAnyH_ready (rs := [10]) (by kernel_rfl) (by simp) (AllReadyH.cons rfl (fun K hK => ?_) AllReadyH.nil)
          go_simp
          have hbw2 : Below wh7.heap.size wh7 w2 := BSW.out
          have BT : Hid (Below wh7.heap.size wh7 (w2.alloc (.cells #[.slice ya R0.tables.length yc, .int .i64 R0.next] 32))) := hbw2.alloc hbw2.size _
          clear BS hbw2
          have BS := BT
          clear BT
          refine hK.out _ _ ?_ (fun hHeld => ?_)
          · (first | exact CE.out _ (HST.out _ BS.out) | exact CE.out _ (HST.out _ BS.out.drew))
          clear hK K
          try simp only [Act.put, List.getElem_toArray, List.getElem_cons_succ, List.getElem_cons_zero, List.setIfInBounds_toArray, List.set_cons_zero, List.set_cons_succ]
          refine wpAnyH_take (i := 11) (v := ?_) rfl (by kernel_rfl) (by kernel_rfl) (by kernel_rfl) (fun _ _ _ h => h) (Or.inl ⟨by kernel_rfl, ?_⟩) (by assumption) ?_
          rotate_left
          · (intro wS hSw; (try dsimp only at hSw); go_simp <;> with_reducible rfl)
          try simp only [Act.put, List.getElem_toArray, List.getElem_cons_succ, List.getElem_cons_zero, List.setIfInBounds_toArray, List.set_cons_zero, List.set_cons_succ]
          refine wpAnyH_done (by kernel_rfl) ?_ _
          have HF := Lib.hid (HST.out _ BS.out)
          go_wp2_with fail
          go_meet
          exact ⟨ya, yc, _, rfl, rfl, HF.out, heap_newD _ _, (HR2.out.later (below_allocD _ _)).mono (fun _ _ => trivial)⟩
        ·
          go_simp
          have LO : Hid (wh7.heap.size ≤ wt2.heap.size) := BS.out.size
          have BS' : Hid (Below wh7.heap.size wh7 (wt2.alloc (.cells #[.slice none 0 0, .int .i64 0] 32))) := BS.out.alloc BS.out.size _
          clear BS
          have BS := BS'
          clear BS'
          have BC0' : Hid (Below wt0.heap.size wt0 (wt2.alloc (.cells #[.slice none 0 0, .int .i64 0] 32))) := BC0.out.alloc BC0.out.size _
          clear BC0
          have BC0 := BC0'
          clear BC0'
          have BC2' : Hid (Below wt2.heap.size wt2 (wt2.alloc (.cells #[.slice none 0 0, .int .i64 0] 32))) := BC2.out.alloc BC2.out.size _
          clear BC2
          have BC2 := BC2'
          clear BC2'
          have HZ : Hid (∀ W, Below (wt2.alloc (.cells #[.slice none 0 0, .int .i64 0] 32)).heap.size (wt2.alloc (.cells #[.slice none 0 0, .int .i64 0] 32)) W → W.heap[wt2.heap.size]? = some (.cells #[.slice none 0 0, .int .i64 0] 32)) := fun W h => heap_keptD (heap_newD _ _) h
          have BA : Hid (Below (wt2.alloc (.cells #[.slice none 0 0, .int .i64 0] 32)).heap.size (wt2.alloc (.cells #[.slice none 0 0, .int .i64 0] 32)) (wt2.alloc (.cells #[.slice none 0 0, .int .i64 0] 32))) := Below.refl _ _
          refine hK.out _ _ ?_ (fun hHeld => ?_)
          · (first | exact CE.out _ (HST.out _ BS.out) | exact CE.out _ (HST.out _ BS.out.drew))
          clear hK K
          try simp only [Act.put, List.getElem_toArray, List.getElem_cons_succ, List.getElem_cons_zero, List.setIfInBounds_toArray, List.set_cons_zero, List.set_cons_succ]
          refine wpAnyH_ready (rs := [5]) (by kernel_rfl) (by simp) (AllReadyH.cons rfl (fun K hK => ?_) AllReadyH.nil)
          go_simp
          have LT0 : Hid (wt2.heap.size < (wt2.alloc (.cells #[.slice none 0 0, .int .i64 0] 32)).heap.size) := (Array.getElem?_eq_some_iff.1 (HZ.out _ BA.out)).1
          go_at_call 10
          refine (CI.out _ _ _ _ _ (by first | exact RC0_0.out _ BC0.out | exact RC0_0.out _ BC0.out.drew) (by first | exact RC2_1.out _ BC2.out | exact RC2_1.out _ BC2.out.drew)).mono ?_
          rintro e w2 ⟨ya, yc, rfl, hr2, hB⟩
          replace hr2 := Own.rd' hr2
          have hb : Below (wt2.alloc (.cells #[.slice none 0 0, .int .i64 0] 32)).heap.size (wt2.alloc (.cells #[.slice none 0 0, .int .i64 0] 32)) w2 := by first | exact hB | exact (Below.refl _ _).drew.trans hB
          have BS' : Hid (Below wh7.heap.size wh7 w2) := BS.out.trans (hb.mono BS.out.size)
          clear BS
          have BS := BS'
          clear BS'
          have BC0' : Hid (Below wt0.heap.size wt0 w2) := BC0.out.trans (hb.mono BC0.out.size)
          clear BC0
          have BC0 := BC0'
          clear BC0'
          have BC2' : Hid (Below wt2.heap.size wt2 w2) := BC2.out.trans (hb.mono BC2.out.size)
          clear BC2
          have BC2 := BC2'
          clear BC2'
          have BA' : Hid (Below (wt2.alloc (.cells #[.slice none 0 0, .int .i64 0] 32)).heap.size (wt2.alloc (.cells #[.slice none 0 0, .int .i64 0] 32)) w2) := BA.out.trans (hb.mono BA.out.size)
          clear BA
          have BA := BA'
          clear BA'
          have HR2 : Hid (Rd w2 (fun b => (wt2.alloc (.cells #[.slice none 0 0, .int .i64 0] 32)).heap.size ≤ b ∧ b < w2.heap.size) (dRowSS R0.tables) (.slice ya R0.tables.length yc)) := by first | exact hr2 | (simpa using hr2)
          clear hb hB hr2
          refine hK.out _ _ ?_ (fun hHeld => ?_)
          · (first | exact CE.out _ (HST.out _ BS.out) | exact CE.out _ (HST.out _ BS.out.drew))
          clear hK K
          try simp only [Act.put, List.getElem_toArray, List.getElem_cons_succ, List.getElem_cons_zero, List.setIfInBounds_toArray, List.set_cons_zero, List.set_cons_succ]
          refine wpAnyH_take (i := 6) (v := ?_) rfl (by kernel_rfl) (by kernel_rfl) (by kernel_rfl) (fun _ _ _ h => h) (Or.inl ⟨by kernel_rfl, ?_⟩) (by assumption) ?_
          rotate_left
          · (intro wS hSw; (try dsimp only at hSw); go_simp <;> with_reducible rfl)
          try simp only [Act.put, List.getElem_toArray, List.getElem_cons_succ, List.getElem_cons_zero, List.setIfInBounds_toArray, List.set_cons_zero, List.set_cons_succ]
          refine wpAnyH_take (i := 7) (v := ?_) rfl (by kernel_rfl) (by kernel_rfl) (by kernel_rfl) (fun _ _ _ h => h) (Or.inl ⟨by kernel_rfl, ?_⟩) (by assumption) ?_
          rotate_left
          · (intro wS hSw; (try dsimp only at hSw); go_simp <;> with_reducible rfl)
          try simp only [Act.put, List.getElem_toArray, List.getElem_cons_succ, List.getElem_cons_zero, List.setIfInBounds_toArray, List.set_cons_zero, List.set_cons_succ]
          refine wpAnyH_take (i := 8) (v := ?_) rfl (by kernel_rfl) (by kernel_rfl) (by kernel_rfl) (fun _ _ _ h => h) (Or.inl ⟨by kernel_rfl, ?_⟩) (by assumption) ?_
          rotate_left
          · (intro wS hSw; (try dsimp only at hSw); go_simp <;> with_reducible rfl)
          try simp only [Act.put, List.getElem_toArray, List.getElem_cons_succ, List.getElem_cons_zero, List.setIfInBounds_toArray, List.set_cons_zero, List.set_cons_succ]
          refine wpAnyH_ready (rs := [10]) (by kernel_rfl) (by simp) (AllReadyH.cons rfl (fun K hK => ?_) AllReadyH.nil)
          have zc0 := cell_at (o := 0) (HZ.out _ BA.out) rfl
          have zf0 := frozen_at 0 (HZ.out _ BA.out)
          have zc1 := cell_at (o := 1) (HZ.out _ BA.out) rfl
          have zf1 := frozen_at 1 (HZ.out _ BA.out)
          go_simp
          clear zc0 zf0 zc1 zf1
          have hlo : wh7.heap.size ≤ wt2.heap.size := LO.out
          have BT : Hid (Below wh7.heap.size wh7 ((w2.setCell ⟨wt2.heap.size, 0, none⟩ (.slice ya R0.tables.length yc)).setCell ⟨wt2.heap.size, 1, none⟩ (.int .i64 R0.next))) := ((BS.out.setCell (by first | exact hlo | (show _ ≤ _; exact hlo)) _).setCell (by first | exact hlo | (show _ ≤ _; exact hlo)) _)
          clear BS hlo
          have BS := BT
          clear BT
          refine hK.out _ _ ?_ (fun hHeld => ?_)
          · (first | exact CE.out _ (HST.out _ BS.out) | exact CE.out _ (HST.out _ BS.out.drew))
          clear hK K
          try simp only [Act.put, List.getElem_toArray, List.getElem_cons_succ, List.getElem_cons_zero, List.setIfInBounds_toArray, List.set_cons_zero, List.set_cons_succ]
          refine wpAnyH_take (i := 11) (v := ?_) rfl (by kernel_rfl) (by kernel_rfl) (by kernel_rfl) (fun _ _ _ h => h) (Or.inl ⟨by kernel_rfl, ?_⟩) (by assumption) ?_
          rotate_left
          · (intro wS hSw; (try dsimp only at hSw); go_simp <;> with_reducible rfl)
          try simp only [Act.put, List.getElem_toArray, List.getElem_cons_succ, List.getElem_cons_zero, List.setIfInBounds_toArray, List.set_cons_zero, List.set_cons_succ]
          refine wpAnyH_done (by kernel_rfl) ?_ _
          have HF := Lib.hid (HST.out _ BS.out)
          go_wp2_with fail
          go_meet
          exact ⟨ya, yc, _, rfl, rfl, HF.out, heap_set 1 _ (heap_set 0 _ (HZ.out _ BA.out)), (HR2.out.frm (F := (· = wt2.heap.size)) ((frm_set _ _ _ _).trans (frm_set _ _ _ _)) (fun b hb e => by have e' : b = wt2.heap.size := e; have h1 := hb.1; have h2 := LT0.out; omega)).mono (fun _ _ => trivial)⟩
      ·
        go_simp
        have LO : Hid (wh7.heap.size ≤ wt0.heap.size) := BS.out.size
        have BS' : Hid (Below wh7.heap.size wh7 (wt0.alloc (.cells #[.slice none 0 0, .int .i64 0] 32))) := BS.out.alloc BS.out.size _
        clear BS
        have BS := BS'
        clear BS'
        have BC0' : Hid (Below wt0.heap.size wt0 (wt0.alloc (.cells #[.slice none 0 0, .int .i64 0] 32))) := BC0.out.alloc BC0.out.size _
        clear BC0
        have BC0 := BC0'
        clear BC0'
        have HZ : Hid (∀ W, Below (wt0.alloc (.cells #[.slice none 0 0, .int .i64 0] 32)).heap.size (wt0.alloc (.cells #[.slice none 0 0, .int .i64 0] 32)) W → W.heap[wt0.heap.size]? = some (.cells #[.slice none 0 0, .int .i64 0] 32)) := fun W h => heap_keptD (heap_newD _ _) h
        have BA : Hid (Below (wt0.alloc (.cells #[.slice none 0 0, .int .i64 0] 32)).heap.size (wt0.alloc (.cells #[.slice none 0 0, .int .i64 0] 32)) (wt0.alloc (.cells #[.slice none 0 0, .int .i64 0] 32))) := Below.refl _ _
        refine hK.out _ _ ?_ (fun hHeld => ?_)
        · (first | exact CE.out _ (HST.out _ BS.out) | exact CE.out _ (HST.out _ BS.out.drew))
        clear hK K
        try simp only [Act.put, List.getElem_toArray, List.getElem_cons_succ, List.getElem_cons_zero, List.setIfInBounds_toArray, List.set_cons_zero, List.set_cons_succ]
        refine wpAnyH_ready (rs := [4]) (by kernel_rfl) (by simp) (AllReadyH.cons rfl (fun K hK => ?_) AllReadyH.nil)
        go_simp
        go_at_call 9
        refine (TO2.out _ (by first | exact HSX.out _ (HST.out _ BS.out) | exact HSX.out _ (HST.out _ BS.out.drew))).mono ?_
        rintro e wt2 ⟨p2_1, rfl, ho, hB, -⟩
        have hb : Below (wt0.alloc (.cells #[.slice none 0 0, .int .i64 0] 32)).heap.size (wt0.alloc (.cells #[.slice none 0 0, .int .i64 0] 32)) wt2 := by first | exact hB | exact (Below.refl _ _).drew.trans hB
        have BS' : Hid (Below wh7.heap.size wh7 wt2) := BS.out.trans (hb.mono BS.out.size)
        clear BS
        have BS := BS'
        clear BS'
        have BC0' : Hid (Below wt0.heap.size wt0 wt2) := BC0.out.trans (hb.mono BC0.out.size)
        clear BC0
        have BC0 := BC0'
        clear BC0'
        have BA' : Hid (Below (wt0.alloc (.cells #[.slice none 0 0, .int .i64 0] 32)).heap.size (wt0.alloc (.cells #[.slice none 0 0, .int .i64 0] 32)) wt2) := BA.out.trans (hb.mono BA.out.size)
        clear BA
        have BA := BA'
        clear BA'
        have RC2_1 : Hid (∀ W, Below wt2.heap.size wt2 W → Rd W (fun _ => True) (dAtomSS x2.cells) (.slice (some ⟨p2_1, 0, none⟩) x2.cells.length x2.cells.length)) := fun W h => Rd.later ((Owns.one ho (j := 1) (by omega)).rd'.any) h
        have BC2 : Hid (Below wt2.heap.size wt2 wt2) := Below.refl _ _
        clear hb hB ho
        refine hK.out _ _ ?_ (fun hHeld => ?_)
        · (first | exact CE.out _ (HST.out _ BS.out) | exact CE.out _ (HST.out _ BS.out.drew))
        clear hK K
        try simp only [Act.put, List.getElem_toArray, List.getElem_cons_succ, List.getElem_cons_zero, List.setIfInBounds_toArray, List.set_cons_zero, List.set_cons_succ]
        refine wpAnyH_ready (rs := [5]) (by kernel_rfl) (by simp) (AllReadyH.cons rfl (fun K hK => ?_) AllReadyH.nil)
        go_simp
        have LT0 : Hid (wt0.heap.size < wt2.heap.size) := (Array.getElem?_eq_some_iff.1 (HZ.out _ BA.out)).1
        go_at_call 10
        refine (CI.out _ _ _ _ _ (by first | exact RC0_0.out _ BC0.out | exact RC0_0.out _ BC0.out.drew) (by first | exact RC2_1.out _ BC2.out | exact RC2_1.out _ BC2.out.drew)).mono ?_
        rintro e w2 ⟨ya, yc, rfl, hr2, hB⟩
        replace hr2 := Own.rd' hr2
        have hb : Below wt2.heap.size wt2 w2 := by first | exact hB | exact (Below.refl _ _).drew.trans hB
        have BS' : Hid (Below wh7.heap.size wh7 w2) := BS.out.trans (hb.mono BS.out.size)
        clear BS
        have BS := BS'
        clear BS'
        have BC0' : Hid (Below wt0.heap.size wt0 w2) := BC0.out.trans (hb.mono BC0.out.size)
        clear BC0
        have BC0 := BC0'
        clear BC0'
        have BA' : Hid (Below (wt0.alloc (.cells #[.slice none 0 0, .int .i64 0] 32)).heap.size (wt0.alloc (.cells #[.slice none 0 0, .int .i64 0] 32)) w2) := BA.out.trans (hb.mono BA.out.size)
        clear BA
        have BA := BA'
        clear BA'
        have BC2' : Hid (Below wt2.heap.size wt2 w2) := BC2.out.trans (hb.mono BC2.out.size)
        clear BC2
        have BC2 := BC2'
        clear BC2'
        have HR2 : Hid (Rd w2 (fun b => wt2.heap.size ≤ b ∧ b < w2.heap.size) (dRowSS R0.tables) (.slice ya R0.tables.length yc)) := by first | exact hr2 | (simpa using hr2)
        clear hb hB hr2
        refine hK.out _ _ ?_ (fun hHeld => ?_)
        · (first | exact CE.out _ (HST.out _ BS.out) | exact CE.out _ (HST.out _ BS.out.drew))
        clear hK K
        try simp only [Act.put, List.getElem_toArray, List.getElem_cons_succ, List.getElem_cons_zero, List.setIfInBounds_toArray, List.set_cons_zero, List.set_cons_succ]
        refine wpAnyH_take (i := 6) (v := ?_) rfl (by kernel_rfl) (by kernel_rfl) (by kernel_rfl) (fun _ _ _ h => h) (Or.inl ⟨by kernel_rfl, ?_⟩) (by assumption) ?_
        rotate_left
        · (intro wS hSw; (try dsimp only at hSw); go_simp <;> with_reducible rfl)
        try simp only [Act.put, List.getElem_toArray, List.getElem_cons_succ, List.getElem_cons_zero, List.setIfInBounds_toArray, List.set_cons_zero, List.set_cons_succ]
        refine wpAnyH_take (i := 7) (v := ?_) rfl (by kernel_rfl) (by kernel_rfl) (by kernel_rfl) (fun _ _ _ h => h) (Or.inl ⟨by kernel_rfl, ?_⟩) (by assumption) ?_
        rotate_left
        · (intro wS hSw; (try dsimp only at hSw); go_simp <;> with_reducible rfl)
        try simp only [Act.put, List.getElem_toArray, List.getElem_cons_succ, List.getElem_cons_zero, List.setIfInBounds_toArray, List.set_cons_zero, List.set_cons_succ]
        refine wpAnyH_take (i := 8) (v := ?_) rfl (by kernel_rfl) (by kernel_rfl) (by kernel_rfl) (fun _ _ _ h => h) (Or.inl ⟨by kernel_rfl, ?_⟩) (by assumption) ?_
        rotate_left
        · (intro wS hSw; (try dsimp only at hSw); go_simp <;> with_reducible rfl)
        try simp only [Act.put, List.getElem_toArray, List.getElem_cons_succ, List.getElem_cons_zero, List.setIfInBounds_toArray, List.set_cons_zero, List.set_cons_succ]
        refine wpAnyH_ready (rs := [10]) (by kernel_rfl) (by simp) (AllReadyH.cons rfl (fun K hK => ?_) AllReadyH.nil)
        have zc0 := cell_at (o := 0) (HZ.out _ BA.out) rfl
        have zf0 := frozen_at 0 (HZ.out _ BA.out)
        have zc1 := cell_at (o := 1) (HZ.out _ BA.out) rfl
        have zf1 := frozen_at 1 (HZ.out _ BA.out)
        go_simp
        clear zc0 zf0 zc1 zf1
        have hlo : wh7.heap.size ≤ wt0.heap.size := LO.out
        have BT : Hid (Below wh7.heap.size wh7 ((w2.setCell ⟨wt0.heap.size, 0, none⟩ (.slice ya R0.tables.length yc)).setCell ⟨wt0.heap.size, 1, none⟩ (.int .i64 R0.next))) := ((BS.out.setCell (by first | exact hlo | (show _ ≤ _; exact hlo)) _).setCell (by first | exact hlo | (show _ ≤ _; exact hlo)) _)
        clear BS hlo
        have BS := BT
        clear BT
        refine hK.out _ _ ?_ (fun hHeld => ?_)
        · (first | exact CE.out _ (HST.out _ BS.out) | exact CE.out _ (HST.out _ BS.out.drew))
        clear hK K
        try simp only [Act.put, List.getElem_toArray, List.getElem_cons_succ, List.getElem_cons_zero, List.setIfInBounds_toArray, List.set_cons_zero, List.set_cons_succ]
        refine wpAnyH_take (i := 11) (v := ?_) rfl (by kernel_rfl) (by kernel_rfl) (by kernel_rfl) (fun _ _ _ h => h) (Or.inl ⟨by kernel_rfl, ?_⟩) (by assumption) ?_
        rotate_left
        · (intro wS hSw; (try dsimp only at hSw); go_simp <;> with_reducible rfl)
        try simp only [Act.put, List.getElem_toArray, List.getElem_cons_succ, List.getElem_cons_zero, List.setIfInBounds_toArray, List.set_cons_zero, List.set_cons_succ]
        refine wpAnyH_done (by kernel_rfl) ?_ _
        have HF := Lib.hid (HST.out _ BS.out)
        go_wp2_with fail
        go_meet
        exact ⟨ya, yc, _, rfl, rfl, HF.out, heap_set 1 _ (heap_set 0 _ (HZ.out _ BA.out)), (HR2.out.frm (F := (· = wt0.heap.size)) ((frm_set _ _ _ _).trans (frm_set _ _ _ _)) (fun b hb e => by have e' : b = wt0.heap.size := e; have h1 := hb.1; have h2 := LT0.out; omega)).mono (fun _ _ => trivial)⟩
    ·
      go_simp
      have LO : Hid (wh7.heap.size ≤ wh7.heap.size) := BS.out.size
      have BS' : Hid (Below wh7.heap.size wh7 (wh7.alloc (.cells #[.slice none 0 0, .int .i64 0] 32))) := BS.out.alloc BS.out.size _
      clear BS
      have BS := BS'
      clear BS'
      have HZ : Hid (∀ W, Below (wh7.alloc (.cells #[.slice none 0 0, .int .i64 0] 32)).heap.size (wh7.alloc (.cells #[.slice none 0 0, .int .i64 0] 32)) W → W.heap[wh7.heap.size]? = some (.cells #[.slice none 0 0, .int .i64 0] 32)) := fun W h => heap_keptD (heap_newD _ _) h
      have BA : Hid (Below (wh7.alloc (.cells #[.slice none 0 0, .int .i64 0] 32)).heap.size (wh7.alloc (.cells #[.slice none 0 0, .int .i64 0] 32)) (wh7.alloc (.cells #[.slice none 0 0, .int .i64 0] 32))) := Below.refl _ _
      refine hK.out _ _ ?_ (fun hHeld => ?_)
      · (first | exact CE.out _ (HST.out _ BS.out) | exact CE.out _ (HST.out _ BS.out.drew))
      clear hK K
      try simp only [Act.put, List.getElem_toArray, List.getElem_cons_succ, List.getElem_cons_zero, List.setIfInBounds_toArray, List.set_cons_zero, List.set_cons_succ]
      refine wpAnyH_ready (rs := [1]) (by kernel_rfl) (by simp) (AllReadyH.cons rfl (fun K hK => ?_) AllReadyH.nil)
      go_simp
      go_at_call 8
      refine (TO0.out _ (by first | exact HSX.out _ (HST.out _ BS.out) | exact HSX.out _ (HST.out _ BS.out.drew))).mono ?_
      rintro e wt0 ⟨p0_0, rfl, ho, hB, -⟩
      have hb : Below (wh7.alloc (.cells #[.slice none 0 0, .int .i64 0] 32)).heap.size (wh7.alloc (.cells #[.slice none 0 0, .int .i64 0] 32)) wt0 := by first | exact hB | exact (Below.refl _ _).drew.trans hB
      have BS' : Hid (Below wh7.heap.size wh7 wt0) := BS.out.trans (hb.mono BS.out.size)
      clear BS
      have BS := BS'
      clear BS'
      have BA' : Hid (Below (wh7.alloc (.cells #[.slice none 0 0, .int .i64 0] 32)).heap.size (wh7.alloc (.cells #[.slice none 0 0, .int .i64 0] 32)) wt0) := BA.out.trans (hb.mono BA.out.size)
      clear BA
      have BA := BA'
      clear BA'
      have RC0_0 : Hid (∀ W, Below wt0.heap.size wt0 W → Rd W (fun _ => True) (dRowSS x0.tables) (.slice (some ⟨p0_0, 0, none⟩) x0.tables.length x0.tables.length)) := fun W h => Rd.later ((Owns.one ho (j := 0) (by omega)).rd'.any) h
      have BC0 : Hid (Below wt0.heap.size wt0 wt0) := Below.refl _ _
      clear hb hB ho
      refine hK.out _ _ ?_ (fun hHeld => ?_)
      · (first | exact CE.out _ (HST.out _ BS.out) | exact CE.out _ (HST.out _ BS.out.drew))
      clear hK K
      try simp only [Act.put, List.getElem_toArray, List.getElem_cons_succ, List.getElem_cons_zero, List.setIfInBounds_toArray, List.set_cons_zero, List.set_cons_succ]
      refine wpAnyH_ready (rs := [4]) (by kernel_rfl) (by simp) (AllReadyH.cons rfl (fun K hK => ?_) AllReadyH.nil)
      go_simp
      go_at_call 9
      refine (TO2.out _ (by first | exact HSX.out _ (HST.out _ BS.out) | exact HSX.out _ (HST.out _ BS.out.drew))).mono ?_
      rintro e wt2 ⟨p2_1, rfl, ho, hB, -⟩
      have hb : Below wt0.heap.size wt0 wt2 := by first | exact hB | exact (Below.refl _ _).drew.trans hB
      have BS' : Hid (Below wh7.heap.size wh7 wt2) := BS.out.trans (hb.mono BS.out.size)
      clear BS
      have BS := BS'
      clear BS'
      have BA' : Hid (Below (wh7.alloc (.cells #[.slice none 0 0, .int .i64 0] 32)).heap.size (wh7.alloc (.cells #[.slice none 0 0, .int .i64 0] 32)) wt2) := BA.out.trans (hb.mono BA.out.size)
      clear BA
      have BA := BA'
      clear BA'
      have BC0' : Hid (Below wt0.heap.size wt0 wt2) := BC0.out.trans (hb.mono BC0.out.size)
      clear BC0
      have BC0 := BC0'
      clear BC0'
      have RC2_1 : Hid (∀ W, Below wt2.heap.size wt2 W → Rd W (fun _ => True) (dAtomSS x2.cells) (.slice (some ⟨p2_1, 0, none⟩) x2.cells.length x2.cells.length)) := fun W h => Rd.later ((Owns.one ho (j := 1) (by omega)).rd'.any) h
      have BC2 : Hid (Below wt2.heap.size wt2 wt2) := Below.refl _ _
      clear hb hB ho
      refine hK.out _ _ ?_ (fun hHeld => ?_)
      · (first | exact CE.out _ (HST.out _ BS.out) | exact CE.out _ (HST.out _ BS.out.drew))
      clear hK K
      try simp only [Act.put, List.getElem_toArray, List.getElem_cons_succ, List.getElem_cons_zero, List.setIfInBounds_toArray, List.set_cons_zero, List.set_cons_succ]
      refine wpAnyH_ready (rs := [5]) (by kernel_rfl) (by simp) (AllReadyH.cons rfl (fun K hK => ?_) AllReadyH.nil)
      go_simp
      have LT0 : Hid (wh7.heap.size < wt2.heap.size) := (Array.getElem?_eq_some_iff.1 (HZ.out _ BA.out)).1
      go_at_call 10
      refine (CI.out _ _ _ _ _ (by first | exact RC0_0.out _ BC0.out | exact RC0_0.out _ BC0.out.drew) (by first | exact RC2_1.out _ BC2.out | exact RC2_1.out _ BC2.out.drew)).mono ?_
      rintro e w2 ⟨ya, yc, rfl, hr2, hB⟩
      replace hr2 := Own.rd' hr2
      have hb : Below wt2.heap.size wt2 w2 := by first | exact hB | exact (Below.refl _ _).drew.trans hB
      have BS' : Hid (Below wh7.heap.size wh7 w2) := BS.out.trans (hb.mono BS.out.size)
      clear BS
      have BS := BS'
      clear BS'
      have BA' : Hid (Below (wh7.alloc (.cells #[.slice none 0 0, .int .i64 0] 32)).heap.size (wh7.alloc (.cells #[.slice none 0 0, .int .i64 0] 32)) w2) := BA.out.trans (hb.mono BA.out.size)
      clear BA
      have BA := BA'
      clear BA'
      have BC0' : Hid (Below wt0.heap.size wt0 w2) := BC0.out.trans (hb.mono BC0.out.size)
      clear BC0
      have BC0 := BC0'
      clear BC0'
      have BC2' : Hid (Below wt2.heap.size wt2 w2) := BC2.out.trans (hb.mono BC2.out.size)
      clear BC2
      have BC2 := BC2'
      clear BC2'
      have HR2 : Hid (Rd w2 (fun b => wt2.heap.size ≤ b ∧ b < w2.heap.size) (dRowSS R0.tables) (.slice ya R0.tables.length yc)) := by first | exact hr2 | (simpa using hr2)
      clear hb hB hr2
      refine hK.out _ _ ?_ (fun hHeld => ?_)
      · (first | exact CE.out _ (HST.out _ BS.out) | exact CE.out _ (HST.out _ BS.out.drew))
      clear hK K
      try simp only [Act.put, List.getElem_toArray, List.getElem_cons_succ, List.getElem_cons_zero, List.setIfInBounds_toArray, List.set_cons_zero, List.set_cons_succ]
      refine wpAnyH_take (i := 6) (v := ?_) rfl (by kernel_rfl) (by kernel_rfl) (by kernel_rfl) (fun _ _ _ h => h) (Or.inl ⟨by kernel_rfl, ?_⟩) (by assumption) ?_
      rotate_left
      · (intro wS hSw; (try dsimp only at hSw); go_simp <;> with_reducible rfl)
      try simp only [Act.put, List.getElem_toArray, List.getElem_cons_succ, List.getElem_cons_zero, List.setIfInBounds_toArray, List.set_cons_zero, List.set_cons_succ]
      refine wpAnyH_take (i := 7) (v := ?_) rfl (by kernel_rfl) (by kernel_rfl) (by kernel_rfl) (fun _ _ _ h => h) (Or.inl ⟨by kernel_rfl, ?_⟩) (by assumption) ?_
      rotate_left
      · (intro wS hSw; (try dsimp only at hSw); go_simp <;> with_reducible rfl)
      try simp only [Act.put, List.getElem_toArray, List.getElem_cons_succ, List.getElem_cons_zero, List.setIfInBounds_toArray, List.set_cons_zero, List.set_cons_succ]
      refine wpAnyH_take (i := 8) (v := ?_) rfl (by kernel_rfl) (by kernel_rfl) (by kernel_rfl) (fun _ _ _ h => h) (Or.inl ⟨by kernel_rfl, ?_⟩) (by assumption) ?_
      rotate_left
      · (intro wS hSw; (try dsimp only at hSw); go_simp <;> with_reducible rfl)
      try simp only [Act.put, List.getElem_toArray, List.getElem_cons_succ, List.getElem_cons_zero, List.setIfInBounds_toArray, List.set_cons_zero, List.set_cons_succ]
      refine wpAnyH_ready (rs := [10]) (by kernel_rfl) (by simp) (AllReadyH.cons rfl (fun K hK => ?_) AllReadyH.nil)
      have zc0 := cell_at (o := 0) (HZ.out _ BA.out) rfl
      have zf0 := frozen_at 0 (HZ.out _ BA.out)
      have zc1 := cell_at (o := 1) (HZ.out _ BA.out) rfl
      have zf1 := frozen_at 1 (HZ.out _ BA.out)
      go_simp
      clear zc0 zf0 zc1 zf1
      have hlo : wh7.heap.size ≤ wh7.heap.size := LO.out
      have BT : Hid (Below wh7.heap.size wh7 ((w2.setCell ⟨wh7.heap.size, 0, none⟩ (.slice ya R0.tables.length yc)).setCell ⟨wh7.heap.size, 1, none⟩ (.int .i64 R0.next))) := ((BS.out.setCell (by first | exact hlo | (show _ ≤ _; exact hlo)) _).setCell (by first | exact hlo | (show _ ≤ _; exact hlo)) _)
      clear BS hlo
      have BS := BT
      clear BT
      refine hK.out _ _ ?_ (fun hHeld => ?_)
      · (first | exact CE.out _ (HST.out _ BS.out) | exact CE.out _ (HST.out _ BS.out.drew))
      clear hK K
      try simp only [Act.put, List.getElem_toArray, List.getElem_cons_succ, List.getElem_cons_zero, List.setIfInBounds_toArray, List.set_cons_zero, List.set_cons_succ]
      refine wpAnyH_take (i := 11) (v := ?_) rfl (by kernel_rfl) (by kernel_rfl) (by kernel_rfl) (fun _ _ _ h => h) (Or.inl ⟨by kernel_rfl, ?_⟩) (by assumption) ?_
      rotate_left
      · (intro wS hSw; (try dsimp only at hSw); go_simp <;> with_reducible rfl)
      try simp only [Act.put, List.getElem_toArray, List.getElem_cons_succ, List.getElem_cons_zero, List.setIfInBounds_toArray, List.set_cons_zero, List.set_cons_succ]
      refine wpAnyH_done (by kernel_rfl) ?_ _
      have HF := Lib.hid (HST.out _ BS.out)
      go_wp2_with fail
      go_meet
      exact ⟨ya, yc, _, rfl, rfl, HF.out, heap_set 1 _ (heap_set 0 _ (HZ.out _ BA.out)), (HR2.out.frm (F := (· = wh7.heap.size)) ((frm_set _ _ _ _).trans (frm_set _ _ _ _)) (fun b hb e => by have e' : b = wh7.heap.size := e; have h1 := hb.1; have h2 := LT0.out; omega)).mono (fun _ _ => trivial)⟩
  obtain ⟨ya, yc, b1, rfl, rfl, HCUT⟩ := hcut
  have N9 := Lib.hid HCUT.out.1
  have BH := Lib.hid HCUT.out.2
  clear HCUT HST CE HSX
  have f_arg0_0 := cell_at (o := 0) N9.out.2.1 rfl
  have f_arg0_1 := cell_at (o := 1) N9.out.2.1 rfl
  have f_arg2_0 := cell_at (o := 0) N9.out.2.2.1 rfl
  have f_arg2_1 := cell_at (o := 1) N9.out.2.2.1 rfl
  have f_w0_0 := cell_at (o := 0) N9.out.2.2.2.1 rfl
  have f_w0_1 := cell_at (o := 1) N9.out.2.2.2.1 rfl
  have f_x0_0 := cell_at (o := 0) N9.out.2.2.2.2.2.1 rfl
  have f_x0_1 := cell_at (o := 1) N9.out.2.2.2.2.2.1 rfl
  have f_x2_0 := cell_at (o := 0) N9.out.2.2.2.2.2.2.2.1 rfl
  have f_x2_1 := cell_at (o := 1) N9.out.2.2.2.2.2.2.2.1 rfl
  have f_g_0 := cell_at (o := 0) N9.out.2.2.2.2.2.2.2.2.2.1 rfl
  have f_g_1 := cell_at (o := 1) N9.out.2.2.2.2.2.2.2.2.2.1 rfl
  have h_0 := cell_at (o := 0) BH.out.1 rfl
  have h_1 := cell_at (o := 1) BH.out.1 rfl
  go_wp2_with fail
  refine (EQR.out _ _ _ _ _ BH.out.2 (Rd.any (N9.out.2.2.2.2.1))).mono ?_
  rintro e wv ⟨rfl, hB⟩
  have N10 := Lib.hid (TGL.out _ _ N9.out hB)
  clear f_arg0_0 f_arg0_1 f_arg2_0 f_arg2_1 f_w0_0 f_w0_1 f_x0_0 f_x0_1 f_x2_0 f_x2_1 f_g_0 f_g_1
  clear hB N9
  have f_arg0_0 := cell_at (o := 0) N10.out.2.1 rfl
  have f_arg0_1 := cell_at (o := 1) N10.out.2.1 rfl
  have f_arg2_0 := cell_at (o := 0) N10.out.2.2.1 rfl
  have f_arg2_1 := cell_at (o := 1) N10.out.2.2.1 rfl
  have f_w0_0 := cell_at (o := 0) N10.out.2.2.2.1 rfl
  have f_w0_1 := cell_at (o := 1) N10.out.2.2.2.1 rfl
  have f_x0_0 := cell_at (o := 0) N10.out.2.2.2.2.2.1 rfl
  have f_x0_1 := cell_at (o := 1) N10.out.2.2.2.2.2.1 rfl
  have f_x2_0 := cell_at (o := 0) N10.out.2.2.2.2.2.2.2.1 rfl
  have f_x2_1 := cell_at (o := 1) N10.out.2.2.2.2.2.2.2.1 rfl
  have f_g_0 := cell_at (o := 0) N10.out.2.2.2.2.2.2.2.2.2.1 rfl
  have f_g_1 := cell_at (o := 1) N10.out.2.2.2.2.2.2.2.2.2.1 rfl
  clear h_0 h_1
  go_wp2_with fail
  refine (HD.out _ (Rd.any (Own.rd' (N10.out.2.2.2.2.2.2.2.2.2.2)))).mono ?_
  rintro e wh10 ⟨rfl, hB⟩
  have N11 := Lib.hid (TGL.out _ _ N10.out hB)
  clear f_arg0_0 f_arg0_1 f_arg2_0 f_arg2_1 f_w0_0 f_w0_1 f_x0_0 f_x0_1 f_x2_0 f_x2_1 f_g_0 f_g_1
  clear hB N10
  have f_arg0_0 := cell_at (o := 0) N11.out.2.1 rfl
  have f_arg0_1 := cell_at (o := 1) N11.out.2.1 rfl
  have f_arg2_0 := cell_at (o := 0) N11.out.2.2.1 rfl
  have f_arg2_1 := cell_at (o := 1) N11.out.2.2.1 rfl
  have f_w0_0 := cell_at (o := 0) N11.out.2.2.2.1 rfl
  have f_w0_1 := cell_at (o := 1) N11.out.2.2.2.1 rfl
  have f_x0_0 := cell_at (o := 0) N11.out.2.2.2.2.2.1 rfl
  have f_x0_1 := cell_at (o := 1) N11.out.2.2.2.2.2.1 rfl
  have f_x2_0 := cell_at (o := 0) N11.out.2.2.2.2.2.2.2.1 rfl
  have f_x2_1 := cell_at (o := 1) N11.out.2.2.2.2.2.2.2.1 rfl
  have f_g_0 := cell_at (o := 0) N11.out.2.2.2.2.2.2.2.2.2.1 rfl
  have f_g_1 := cell_at (o := 1) N11.out.2.2.2.2.2.2.2.2.2.1 rfl
  go_wp2_with fail
  go_ret
  exact ⟨rfl, N11.out.1⟩
end Go.Proofs.Ytgiaabgcbpafgaa
