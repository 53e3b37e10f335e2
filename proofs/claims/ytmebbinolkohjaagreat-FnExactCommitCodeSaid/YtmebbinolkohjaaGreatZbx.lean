import Derived.Test.YtmebbinolkohjaaGreatZbw
import Derived.Deep.RegionHeld3
import Derived.Deep.CutRange
import Derived.Test.YtmebbinolkohjaaGreatZTk
namespace Go.Proofs.YtmebbinolkohjaaGreat
open Go.RowKit
set_option linter.unusedSimpArgs false
set_option maxRecDepth 100000 in
set_option maxHeartbeats 12800000 in
theorem lawCommitCode (x0 : ScV) (x1 : StV) (a0_0 : Option Addr) (c0_0 : Nat) (a1_0 : Option Addr) (c1_0 : Nat) (w : World) (l0_0 : (dTableS x0.tables).le maxLen) (l1_0 : (dRowSS x1.tables).le maxLen) (l1_1 : iOK x1.next) (r0_0 : Rd w (· < w.heap.size) (dTableS x0.tables) (.slice a0_0 x0.tables.length c0_0)) (r1_0 : Rd w (· < w.heap.size) (dRowSS x1.tables) (.slice a1_0 x1.tables.length c1_0)) :
    Calls Tryz.prog 4 #[.agg #[.slice a0_0 x0.tables.length c0_0], .agg #[.slice a1_0 x1.tables.length c1_0, .int .i64 x1.next]] w fun e w' => e = .returned (.bool true) ∧ Below w.heap.size w w' := by
  have HL0_0 := Lib.hid l0_0
  have HO0 : Hid (∀ j, j < 1 → (dSchema x0 j).le maxLen) := fun j hj => by
    obtain rfl : j = 0 := by omega
    exact l0_0
  have RA0_0 : Hid (∀ W, Below w.heap.size w W → Rd W (· < w.heap.size) (dTableS x0.tables) (.slice a0_0 x0.tables.length c0_0)) := fun W h => Rd.same (fun b hb => h.block b hb) (fun _ h => h) _ _ r0_0
  have HL1_0 := Lib.hid l1_0
  have HO1 : Hid (∀ j, j < 2 → (dStore x1 j).le maxLen) := fun j hj => by
    rcases (by omega : j = 0 ∨ j = 1) with rfl | rfl
    · exact l1_0
    · exact l1_1
  have RA1_0 : Hid (∀ W, Below w.heap.size w W → Rd W (· < w.heap.size) (dRowSS x1.tables) (.slice a1_0 x1.tables.length c1_0)) := fun W h => Rd.same (fun b hb => h.block b hb) (fun _ h => h) _ _ r1_0
  have ALAT : Hid (∀ W W', (Below w.heap.size w W ∧ W.heap[w.heap.size]? = some (.cells #[.slice a0_0 x0.tables.length c0_0] 24) ∧ W.heap[w.heap.size + 1]? = some (.cells #[.slice a1_0 x1.tables.length c1_0, .int .i64 x1.next] 27)) → Below W.heap.size W W' → (Below w.heap.size w W' ∧ W'.heap[w.heap.size]? = some (.cells #[.slice a0_0 x0.tables.length c0_0] 24) ∧ W'.heap[w.heap.size + 1]? = some (.cells #[.slice a1_0 x1.tables.length c1_0, .int .i64 x1.next] 27))) := fun W W' h hB => ⟨h.1.trans (hB.mono h.1.size), heap_keptD h.2.1 hB, heap_keptD h.2.2 hB⟩
  have A0 : Hid (Below w.heap.size w ((w.alloc (.cells #[.slice a0_0 x0.tables.length c0_0] 24)).alloc (.cells #[.slice a1_0 x1.tables.length c1_0, .int .i64 x1.next] 27)) ∧ ((w.alloc (.cells #[.slice a0_0 x0.tables.length c0_0] 24)).alloc (.cells #[.slice a1_0 x1.tables.length c1_0, .int .i64 x1.next] 27)).heap[w.heap.size]? = some (.cells #[.slice a0_0 x0.tables.length c0_0] 24) ∧ ((w.alloc (.cells #[.slice a0_0 x0.tables.length c0_0] 24)).alloc (.cells #[.slice a1_0 x1.tables.length c1_0, .int .i64 x1.next] 27)).heap[w.heap.size + 1]? = some (.cells #[.slice a1_0 x1.tables.length c1_0, .int .i64 x1.next] 27)) := by
    refine ⟨(below_allocD _ _).trans ((below_allocD _ _).mono (by simp)), heap_keptD (heap_newD _ _) (below_allocD _ _), ?_⟩
    have h := heap_newD (w.alloc (.cells #[.slice a0_0 x0.tables.length c0_0] 24)) (.cells #[.slice a1_0 x1.tables.length c1_0, .int .i64 x1.next] 27)
    rw [size_allocD] at h
    exact h
  clear l0_0 r0_0 l1_0 r1_0 l1_1
  have x0_0 := cell_at (o := 0) A0.out.2.1 rfl
  have x1_0 := cell_at (o := 0) A0.out.2.2 rfl
  have x1_1 := cell_at (o := 1) A0.out.2.2 rfl
  go_enter Tryz.func4, Tryz.ntmps4
  go_wp2_with fail
  have bl : Hid ((0 : Int) ≤ 1048576 ∧ (1048576 : Int) ≤ 1048576) := by show _ ∧ _; omega
  refine (szDSchema x0 a0_0 c0_0 1048576 _ _ bl.out.1 bl.out.2 HO0.out (RA0_0.out _ A0.out.1)).mono ?_
  rintro e ws0 ⟨rfl, hB⟩
  have AS0 := Lib.hid (ALAT.out _ _ A0.out hB)
  clear hB A0 x0_0 x1_0 x1_1
  have x0_0 := cell_at (o := 0) AS0.out.2.1 rfl
  have x1_0 := cell_at (o := 0) AS0.out.2.2 rfl
  have x1_1 := cell_at (o := 1) AS0.out.2.2 rfl
  by_cases hz0 : (1048576 : Int) - (szT 1 (dSchema x0) : Int) < 0
  case pos =>
    rw [less_no hz0]
    go_wp2_with fail
    go_ret
    exact ⟨rfl, AS0.out.1⟩
  rw [less_yes (by omega)]
  obtain ⟨L0, hL0⟩ : ∃ L0 : Int, L0 = 1048576 - (szT 1 (dSchema x0) : Int) := ⟨_, rfl⟩
  rw [← hL0]
  have dL0 : decide (L0 < 0) = false := decide_eq_false (by omega)
  have HZ0 : Hid (szT 1 (dSchema x0) ≤ 1048576) := by have := bl.out; show _ ≤ _; omega
  have b2 : Hid (0 ≤ L0 ∧ L0 ≤ 1048576) := by have := bl.out; show _ ∧ _; omega
  clear hz0 hL0 bl
  have bl := b2
  clear b2
  go_wp2_with fail
  refine (szDStore x1 a1_0 c1_0 L0 _ _ bl.out.1 bl.out.2 HO1.out (RA1_0.out _ AS0.out.1)).mono ?_
  rintro e ws1 ⟨rfl, hB⟩
  have AS1 := Lib.hid (ALAT.out _ _ AS0.out hB)
  clear hB AS0 x0_0 x1_0 x1_1
  have x0_0 := cell_at (o := 0) AS1.out.2.1 rfl
  have x1_0 := cell_at (o := 0) AS1.out.2.2 rfl
  have x1_1 := cell_at (o := 1) AS1.out.2.2 rfl
  by_cases hz1 : L0 - (szT 2 (dStore x1) : Int) < 0
  case pos =>
    rw [less_no hz1]
    go_wp2_with fail
    go_ret
    exact ⟨rfl, AS1.out.1⟩
  rw [less_yes (by omega)]
  obtain ⟨L1, hL1⟩ : ∃ L1 : Int, L1 = L0 - (szT 2 (dStore x1) : Int) := ⟨_, rfl⟩
  rw [← hL1]
  have dL1 : decide (L1 < 0) = false := decide_eq_false (by omega)
  have HZ1 : Hid (szT 2 (dStore x1) ≤ 1048576) := by have := bl.out; show _ ≤ _; omega
  have b2 : Hid (0 ≤ L1 ∧ L1 ≤ 1048576) := by have := bl.out; show _ ∧ _; omega
  clear hz1 hL1 bl
  have bl := b2
  clear b2
  go_wp2_with fail
  have HK0 : Hid (∀ j, j < 1 → (dSchema x0 j).le 1048576) := fun j hj => D.le_of_sz _ (HO0.out j hj) (Nat.le_trans (sumN_le (g := fun j => (dSchema x0 j).sz) hj) HZ0.out)
  have HK1 : Hid (∀ j, j < 2 → (dStore x1 j).le 1048576) := fun j hj => D.le_of_sz _ (HO1.out j hj) (Nat.le_trans (sumN_le (g := fun j => (dStore x1 j).sz) hj) HZ1.out)
  have TO0 : Hid (∀ W, (Below w.heap.size w W ∧ W.heap[w.heap.size]? = some (.cells #[.slice a0_0 x0.tables.length c0_0] 24) ∧ W.heap[w.heap.size + 1]? = some (.cells #[.slice a1_0 x1.tables.length c1_0, .int .i64 x1.next] 27)) → Calls Tryz.prog 8 #[.agg #[.slice a0_0 x0.tables.length c0_0]] W fun e w' => ∃ p0 : Nat, e = .returned (.agg #[.slice (some ⟨p0, 0, none⟩) x0.tables.length x0.tables.length]) ∧ Owns w' 1 (dSchema x0) (vat [.slice (some ⟨p0, 0, none⟩) x0.tables.length x0.tables.length]) (fun c => W.heap.size ≤ c ∧ c < w'.heap.size) ∧ Below W.heap.size W w' ∧ (Below w.heap.size w w' ∧ w'.heap[w.heap.size]? = some (.cells #[.slice a0_0 x0.tables.length c0_0] 24) ∧ w'.heap[w.heap.size + 1]? = some (.cells #[.slice a1_0 x1.tables.length c1_0, .int .i64 x1.next] 27))) := fun W h => (toDSchema x0 a0_0 c0_0 _ W HK0.out (RA0_0.out W h.1)).mono (fun e w' ⟨p0, he, ho, hB⟩ => ⟨p0, he, ho, hB, ALAT.out _ _ h hB⟩)
  have TO1 : Hid (∀ W, (Below w.heap.size w W ∧ W.heap[w.heap.size]? = some (.cells #[.slice a0_0 x0.tables.length c0_0] 24) ∧ W.heap[w.heap.size + 1]? = some (.cells #[.slice a1_0 x1.tables.length c1_0, .int .i64 x1.next] 27)) → Calls Tryz.prog 9 #[.agg #[.slice a1_0 x1.tables.length c1_0, .int .i64 x1.next]] W fun e w' => ∃ p0 : Nat, e = .returned (.agg #[.slice (some ⟨p0, 0, none⟩) x1.tables.length x1.tables.length, .int .i64 x1.next]) ∧ Owns w' 2 (dStore x1) (vat [.slice (some ⟨p0, 0, none⟩) x1.tables.length x1.tables.length, .int .i64 x1.next]) (fun c => W.heap.size ≤ c ∧ c < w'.heap.size) ∧ Below W.heap.size W w' ∧ (Below w.heap.size w w' ∧ w'.heap[w.heap.size]? = some (.cells #[.slice a0_0 x0.tables.length c0_0] 24) ∧ w'.heap[w.heap.size + 1]? = some (.cells #[.slice a1_0 x1.tables.length c1_0, .int .i64 x1.next] 27))) := fun W h => (toDStore x1 a1_0 c1_0 _ W HK1.out (RA1_0.out W h.1)).mono (fun e w' ⟨p0, he, ho, hB⟩ => ⟨p0, he, ho, hB, ALAT.out _ _ h hB⟩)
  have CS : Hid (∀ (W : World) (b0_0 : Option Addr) (e0_0 : Nat) (b1_0 : Option Addr) (e1_0 : Nat), Rd W (fun _ => True) (dTableS x0.tables) (.slice b0_0 x0.tables.length e0_0) → Rd W (fun _ => True) (dRowSS x1.tables) (.slice b1_0 x1.tables.length e1_0) → Calls Tryz.prog 16 #[.agg #[.slice b0_0 x0.tables.length e0_0], .agg #[.slice b1_0 x1.tables.length e1_0, .int .i64 x1.next]] W fun e w' => e = .returned (.tuple #[.int .i64 ((ccR x0.tables x1).1), .int .i64 ((ccR x0.tables x1).2)]) ∧ Below W.heap.size W w') := fun W b0_0 e0_0 b1_0 e1_0 h0_0 h1_0 => ccS x0.tables b0_0 e0_0 _ x1 b1_0 e1_0 _ W HL0_0.out HL1_0.out h0_0 h1_0
  have CI : Hid (∀ (W : World) (b0_0 : Option Addr) (e0_0 : Nat) (b1_0 : Option Addr) (e1_0 : Nat), Rd W (fun _ => True) (dTableS x0.tables) (.slice b0_0 x0.tables.length e0_0) → Rd W (fun _ => True) (dRowSS x1.tables) (.slice b1_0 x1.tables.length e1_0) → Calls Tryz.prog 17 #[.agg #[.slice b0_0 x0.tables.length e0_0], .agg #[.slice b1_0 x1.tables.length e1_0, .int .i64 x1.next]] W fun e w' => e = .returned (.tuple #[.int .i64 ((ccR x0.tables x1).1), .int .i64 ((ccR x0.tables x1).2)]) ∧ Below W.heap.size W w') := fun W b0_0 e0_0 b1_0 e1_0 h0_0 h1_0 => ccI x0.tables b0_0 e0_0 _ x1 b1_0 e1_0 _ W HL0_0.out HL1_0.out h0_0 h1_0
  have nq0 := bne_self_eq_false ((ccR x0.tables x1).1)
  generalize ((ccR x0.tables x1).1) = R0 at *
  have nq1 := bne_self_eq_false ((ccR x0.tables x1).2)
  generalize ((ccR x0.tables x1).2) = R1 at *
  have EQ0 : Hid (∀ (W : World) (b0 : Option Addr) (e0 : Nat) (f0 : Option Addr) (g0 : Nat), Rd W (fun _ => True) (dTableS x0.tables) (.slice b0 x0.tables.length e0) → Rd W (fun _ => True) (dTableS x0.tables) (.slice f0 x0.tables.length g0) → Calls Tryz.prog 12 #[.agg #[.slice b0 x0.tables.length e0], .agg #[.slice f0 x0.tables.length g0]] W fun e w' => e = .returned (.bool true) ∧ Below W.heap.size W w') := fun W b0 e0 f0 g0 h0 i0 => eqDSchema x0 b0 e0 f0 g0 _ _ W HO0.out h0 i0
  have EQ1 : Hid (∀ (W : World) (b0 : Option Addr) (e0 : Nat) (f0 : Option Addr) (g0 : Nat), Rd W (fun _ => True) (dRowSS x1.tables) (.slice b0 x1.tables.length e0) → Rd W (fun _ => True) (dRowSS x1.tables) (.slice f0 x1.tables.length g0) → Calls Tryz.prog 11 #[.agg #[.slice b0 x1.tables.length e0, .int .i64 x1.next], .agg #[.slice f0 x1.tables.length g0, .int .i64 x1.next]] W fun e w' => e = .returned (.bool true) ∧ Below W.heap.size W w') := fun W b0 e0 f0 g0 h0 i0 => eqDStore x1 b0 e0 f0 g0 _ _ W HO1.out h0 i0
  have CE : Hid (∀ W, (Below w.heap.size w W ∧ W.heap[w.heap.size]? = some (.cells #[.slice a0_0 x0.tables.length c0_0] 24) ∧ W.heap[w.heap.size + 1]? = some (.cells #[.slice a1_0 x1.tables.length c1_0, .int .i64 x1.next] 27)) → (W.cell? ⟨w.heap.size, 0, none⟩ = some (.slice a0_0 x0.tables.length c0_0) ∧ W.cell? ⟨w.heap.size + 1, 0, none⟩ = some (.slice a1_0 x1.tables.length c1_0) ∧ W.cell? ⟨w.heap.size + 1, 1, none⟩ = some (.int .i64 x1.next))) := fun W h => ⟨cell_at (o := 0) h.2.1 rfl, cell_at (o := 0) h.2.2 rfl, cell_at (o := 1) h.2.2 rfl⟩
  have hx := AS1.out
  refine wp_region_held_drew (S := (fun W => W.cell? ⟨w.heap.size, 0, none⟩ = some (.slice a0_0 x0.tables.length c0_0) ∧ W.cell? ⟨w.heap.size + 1, 0, none⟩ = some (.slice a1_0 x1.tables.length c1_0) ∧ W.cell? ⟨w.heap.size + 1, 1, none⟩ = some (.int .i64 x1.next))) (by kernel_rfl) ?_ (fun hHeld => ?_)
  · (first | exact CE.out _ hx | exact CE.out _ (ALAT.out _ _ hx (Below.refl _ _).drew))
  refine wpAnyH_take (i := 0) (v := ?_) rfl (by kernel_rfl) (by kernel_rfl) (by kernel_rfl) (fun _ _ _ h => h) (Or.inl ⟨by kernel_rfl, ?_⟩) (by assumption) ?_
  rotate_left
  · (intro wS hSw; (try dsimp only at hSw); go_simp <;> with_reducible rfl)
  try simp only [Act.put, tkS]
  refine wpAnyH_take (i := 2) (v := ?_) rfl (by kernel_rfl) (by kernel_rfl) (by kernel_rfl) (fun _ _ _ h => h) (Or.inl ⟨by kernel_rfl, ?_⟩) (by assumption) ?_
  rotate_left
  · (intro wS hSw; (try dsimp only at hSw); go_simp <;> with_reducible rfl)
  try simp only [Act.put, tkS]
  refine wpAnyH_ready (rs := [1]) (by kernel_rfl) (by simp) (AllReadyH.cons rfl (fun K hK => ?_) AllReadyH.nil)
  go_simp
  (go_at_call 8; refine (TO0.out _ (by first | exact hx | exact ALAT.out _ _ hx (Below.refl _ _).drew)).mono ?_; rintro e wt0 ⟨p0_0, rfl, ho0, hB0, hA0⟩; clear hx; have hx := hA0; clear hA0; have RC0_0 : Hid (Rd _ (fun _ => True) (dTableS x0.tables) (.slice (some ⟨p0_0, 0, none⟩) x0.tables.length x0.tables.length)) := (Owns.one ho0 (j := 0) (by omega)).rd'.any; clear ho0; clear hB0)
  refine hK.out _ _ ?_ (fun hHeld => ?_)
  · (first | exact CE.out _ hx | exact CE.out _ (ALAT.out _ _ hx (Below.refl _ _).drew))
  clear hK K
  try simp only [Act.put, tkS]
  refine wpAnyH_ready (rs := [3]) (by kernel_rfl) (by simp) (AllReadyH.cons rfl (fun K hK => ?_) AllReadyH.nil)
  go_simp
  (go_at_call 9; refine (TO1.out _ (by first | exact hx | exact ALAT.out _ _ hx (Below.refl _ _).drew)).mono ?_; rintro e wt1 ⟨p1_0, rfl, ho1, hB1, hA1⟩; clear hx; have hx := hA1; clear hA1; have RC1_0 : Hid (Rd _ (fun _ => True) (dRowSS x1.tables) (.slice (some ⟨p1_0, 0, none⟩) x1.tables.length x1.tables.length)) := (Owns.one ho1 (j := 0) (by omega)).rd'.any; have RE0_0 := Lib.hid (Rd.later RC0_0.out (by first | exact hB1 | exact (Below.refl _ _).drew.trans hB1)); clear RC0_0; have RC0_0 := RE0_0; clear RE0_0; clear ho1; clear hB1)
  refine hK.out _ _ ?_ (fun hHeld => ?_)
  · (first | exact CE.out _ hx | exact CE.out _ (ALAT.out _ _ hx (Below.refl _ _).drew))
  clear hK K
  try simp only [Act.put, tkS]
  refine wpAnyH_ready (rs := [4]) (by kernel_rfl) (by simp) (AllReadyH.cons rfl (fun K hK => ?_) AllReadyH.nil)
  go_simp
  (go_at_call 16; refine (CS.out _ _ _ _ _ (by first | exact RC0_0.out | exact RC0_0.out.later (Below.refl _ _).drew) (by first | exact RC1_0.out | exact RC1_0.out.later (Below.refl _ _).drew)).mono ?_; rintro e w2 ⟨rfl, hB2⟩; have h2 := ALAT.out _ _ hx (by first | exact hB2 | exact (Below.refl _ _).drew.trans hB2); clear hx hB2; have hx := h2; clear h2)
  refine hK.out _ _ ?_ (fun hHeld => ?_)
  · (first | exact CE.out _ hx | exact CE.out _ (ALAT.out _ _ hx (Below.refl _ _).drew))
  clear hK K
  try simp only [Act.put, tkS]
  refine wpAnyH_take (i := 5) (v := ?_) rfl (by kernel_rfl) (by kernel_rfl) (by kernel_rfl) (fun _ _ _ h => h) (Or.inl ⟨by kernel_rfl, ?_⟩) (by assumption) ?_
  rotate_left
  · (intro wS hSw; (try dsimp only at hSw); go_simp <;> with_reducible rfl)
  try simp only [Act.put, tkS]
  refine wpAnyH_take (i := 6) (v := ?_) rfl (by kernel_rfl) (by kernel_rfl) (by kernel_rfl) (fun _ _ _ h => h) (Or.inl ⟨by kernel_rfl, ?_⟩) (by assumption) ?_
  rotate_left
  · (intro wS hSw; (try dsimp only at hSw); go_simp <;> with_reducible rfl)
  try simp only [Act.put, tkS]
  refine wpAnyH_take (i := 7) (v := ?_) rfl (by kernel_rfl) (by kernel_rfl) (by kernel_rfl) (fun _ _ _ h => h) (Or.inl ⟨by kernel_rfl, ?_⟩) (by assumption) ?_
  rotate_left
  · (intro wS hSw; (try dsimp only at hSw); go_simp <;> with_reducible rfl)
  try simp only [Act.put, tkS]
  refine wpAnyH_take (i := 8) (v := ?_) rfl (by kernel_rfl) (by kernel_rfl) (by kernel_rfl) (fun _ _ _ h => h) (Or.inl ⟨by kernel_rfl, ?_⟩) (by assumption) ?_
  rotate_left
  · (intro wS hSw; (try dsimp only at hSw); go_simp <;> with_reducible rfl)
  try simp only [Act.put, tkS]
  refine wpAnyH_take (i := 9) (v := ?_) rfl (by kernel_rfl) (by kernel_rfl) (by kernel_rfl) (fun _ _ _ h => h) (Or.inl ⟨by kernel_rfl, ?_⟩) (by assumption) ?_
  rotate_left
  · (intro wS hSw; (try dsimp only at hSw); go_simp <;> with_reducible rfl)
  try simp only [Act.put, tkS]
  refine wpAnyH_done (by kernel_rfl) ?_ _
  clear AS1
  have A2 := Lib.hid hx
  clear hx x0_0 x1_0 x1_1 RC0_0 RC1_0
  have x0_0 := cell_at (o := 0) A2.out.2.1 rfl
  have x1_0 := cell_at (o := 0) A2.out.2.2 rfl
  have x1_1 := cell_at (o := 1) A2.out.2.2 rfl
  go_wp2_with fail
  refine (TO0.out _ (by first | exact A2.out | exact ALAT.out _ _ A2.out (Below.refl _ _).drew)).mono ?_
  rintro e wx0 ⟨p0_0, rfl, ho, hB, hA⟩
  have XS0L : Hid (∀ W W', (Below w.heap.size w W ∧ W.heap[w.heap.size]? = some (.cells #[.slice a0_0 x0.tables.length c0_0] 24) ∧ W.heap[w.heap.size + 1]? = some (.cells #[.slice a1_0 x1.tables.length c1_0, .int .i64 x1.next] 27) ∧ W.heap[wx0.heap.size]? = some (.cells #[.slice (some ⟨p0_0, 0, none⟩) x0.tables.length x0.tables.length] 37) ∧ Rd W (fun _ => True) (dTableS x0.tables) (.slice (some ⟨p0_0, 0, none⟩) x0.tables.length x0.tables.length)) → Below W.heap.size W W' → (Below w.heap.size w W' ∧ W'.heap[w.heap.size]? = some (.cells #[.slice a0_0 x0.tables.length c0_0] 24) ∧ W'.heap[w.heap.size + 1]? = some (.cells #[.slice a1_0 x1.tables.length c1_0, .int .i64 x1.next] 27) ∧ W'.heap[wx0.heap.size]? = some (.cells #[.slice (some ⟨p0_0, 0, none⟩) x0.tables.length x0.tables.length] 37) ∧ Rd W' (fun _ => True) (dTableS x0.tables) (.slice (some ⟨p0_0, 0, none⟩) x0.tables.length x0.tables.length))) := fun W W' h hB => ⟨h.1.trans (hB.mono h.1.size), heap_keptD h.2.1 hB, heap_keptD h.2.2.1 hB, heap_keptD h.2.2.2.1 hB, h.2.2.2.2.later hB⟩
  have Y0 : Hid (Below w.heap.size w (wx0.alloc (.cells #[.slice (some ⟨p0_0, 0, none⟩) x0.tables.length x0.tables.length] 37)) ∧ (wx0.alloc (.cells #[.slice (some ⟨p0_0, 0, none⟩) x0.tables.length x0.tables.length] 37)).heap[w.heap.size]? = some (.cells #[.slice a0_0 x0.tables.length c0_0] 24) ∧ (wx0.alloc (.cells #[.slice (some ⟨p0_0, 0, none⟩) x0.tables.length x0.tables.length] 37)).heap[w.heap.size + 1]? = some (.cells #[.slice a1_0 x1.tables.length c1_0, .int .i64 x1.next] 27) ∧ (wx0.alloc (.cells #[.slice (some ⟨p0_0, 0, none⟩) x0.tables.length x0.tables.length] 37)).heap[wx0.heap.size]? = some (.cells #[.slice (some ⟨p0_0, 0, none⟩) x0.tables.length x0.tables.length] 37) ∧ Rd (wx0.alloc (.cells #[.slice (some ⟨p0_0, 0, none⟩) x0.tables.length x0.tables.length] 37)) (fun _ => True) (dTableS x0.tables) (.slice (some ⟨p0_0, 0, none⟩) x0.tables.length x0.tables.length)) := ⟨hA.1.trans ((below_allocD _ _).mono hA.1.size), heap_keptD hA.2.1 (below_allocD _ _), heap_keptD hA.2.2 (below_allocD _ _), heap_newD _ _, Rd.later ((Owns.one ho (j := 0) (by omega)).rd'.any) (below_allocD _ _)⟩
  clear hB hA ho A2 x0_0 x1_0 x1_1
  have x0_0 := cell_at (o := 0) Y0.out.2.1 rfl
  have x1_0 := cell_at (o := 0) Y0.out.2.2.1 rfl
  have x1_1 := cell_at (o := 1) Y0.out.2.2.1 rfl
  have y0_0 := cell_at (o := 0) Y0.out.2.2.2.1 rfl
  go_wp2_with fail
  refine (TO1.out _ ⟨Y0.out.1, Y0.out.2.1, Y0.out.2.2.1⟩).mono ?_
  rintro e wx1 ⟨p1_0, rfl, ho, hB, hA⟩
  have XO := XS0L.out _ _ Y0.out hB
  have XS1L : Hid (∀ W W', (Below w.heap.size w W ∧ W.heap[w.heap.size]? = some (.cells #[.slice a0_0 x0.tables.length c0_0] 24) ∧ W.heap[w.heap.size + 1]? = some (.cells #[.slice a1_0 x1.tables.length c1_0, .int .i64 x1.next] 27) ∧ W.heap[wx0.heap.size]? = some (.cells #[.slice (some ⟨p0_0, 0, none⟩) x0.tables.length x0.tables.length] 37) ∧ Rd W (fun _ => True) (dTableS x0.tables) (.slice (some ⟨p0_0, 0, none⟩) x0.tables.length x0.tables.length) ∧ W.heap[wx1.heap.size]? = some (.cells #[.slice (some ⟨p1_0, 0, none⟩) x1.tables.length x1.tables.length, .int .i64 x1.next] 32) ∧ Rd W (fun _ => True) (dRowSS x1.tables) (.slice (some ⟨p1_0, 0, none⟩) x1.tables.length x1.tables.length)) → Below W.heap.size W W' → (Below w.heap.size w W' ∧ W'.heap[w.heap.size]? = some (.cells #[.slice a0_0 x0.tables.length c0_0] 24) ∧ W'.heap[w.heap.size + 1]? = some (.cells #[.slice a1_0 x1.tables.length c1_0, .int .i64 x1.next] 27) ∧ W'.heap[wx0.heap.size]? = some (.cells #[.slice (some ⟨p0_0, 0, none⟩) x0.tables.length x0.tables.length] 37) ∧ Rd W' (fun _ => True) (dTableS x0.tables) (.slice (some ⟨p0_0, 0, none⟩) x0.tables.length x0.tables.length) ∧ W'.heap[wx1.heap.size]? = some (.cells #[.slice (some ⟨p1_0, 0, none⟩) x1.tables.length x1.tables.length, .int .i64 x1.next] 32) ∧ Rd W' (fun _ => True) (dRowSS x1.tables) (.slice (some ⟨p1_0, 0, none⟩) x1.tables.length x1.tables.length))) := fun W W' h hB => ⟨h.1.trans (hB.mono h.1.size), heap_keptD h.2.1 hB, heap_keptD h.2.2.1 hB, heap_keptD h.2.2.2.1 hB, h.2.2.2.2.1.later hB, heap_keptD h.2.2.2.2.2.1 hB, h.2.2.2.2.2.2.later hB⟩
  have Y1 : Hid (Below w.heap.size w (wx1.alloc (.cells #[.slice (some ⟨p1_0, 0, none⟩) x1.tables.length x1.tables.length, .int .i64 x1.next] 32)) ∧ (wx1.alloc (.cells #[.slice (some ⟨p1_0, 0, none⟩) x1.tables.length x1.tables.length, .int .i64 x1.next] 32)).heap[w.heap.size]? = some (.cells #[.slice a0_0 x0.tables.length c0_0] 24) ∧ (wx1.alloc (.cells #[.slice (some ⟨p1_0, 0, none⟩) x1.tables.length x1.tables.length, .int .i64 x1.next] 32)).heap[w.heap.size + 1]? = some (.cells #[.slice a1_0 x1.tables.length c1_0, .int .i64 x1.next] 27) ∧ (wx1.alloc (.cells #[.slice (some ⟨p1_0, 0, none⟩) x1.tables.length x1.tables.length, .int .i64 x1.next] 32)).heap[wx0.heap.size]? = some (.cells #[.slice (some ⟨p0_0, 0, none⟩) x0.tables.length x0.tables.length] 37) ∧ Rd (wx1.alloc (.cells #[.slice (some ⟨p1_0, 0, none⟩) x1.tables.length x1.tables.length, .int .i64 x1.next] 32)) (fun _ => True) (dTableS x0.tables) (.slice (some ⟨p0_0, 0, none⟩) x0.tables.length x0.tables.length) ∧ (wx1.alloc (.cells #[.slice (some ⟨p1_0, 0, none⟩) x1.tables.length x1.tables.length, .int .i64 x1.next] 32)).heap[wx1.heap.size]? = some (.cells #[.slice (some ⟨p1_0, 0, none⟩) x1.tables.length x1.tables.length, .int .i64 x1.next] 32) ∧ Rd (wx1.alloc (.cells #[.slice (some ⟨p1_0, 0, none⟩) x1.tables.length x1.tables.length, .int .i64 x1.next] 32)) (fun _ => True) (dRowSS x1.tables) (.slice (some ⟨p1_0, 0, none⟩) x1.tables.length x1.tables.length)) := ⟨XO.1.trans ((below_allocD _ _).mono XO.1.size), heap_keptD XO.2.1 (below_allocD _ _), heap_keptD XO.2.2.1 (below_allocD _ _), heap_keptD XO.2.2.2.1 (below_allocD _ _), XO.2.2.2.2.later (below_allocD _ _), heap_newD _ _, Rd.later ((Owns.one ho (j := 0) (by omega)).rd'.any) (below_allocD _ _)⟩
  clear hB hA ho XO Y0 XS0L x0_0 x1_0 x1_1 y0_0
  have x0_0 := cell_at (o := 0) Y1.out.2.1 rfl
  have x1_0 := cell_at (o := 0) Y1.out.2.2.1 rfl
  have x1_1 := cell_at (o := 1) Y1.out.2.2.1 rfl
  have y0_0 := cell_at (o := 0) Y1.out.2.2.2.1 rfl
  have y1_0 := cell_at (o := 0) Y1.out.2.2.2.2.2.1 rfl
  have y1_1 := cell_at (o := 1) Y1.out.2.2.2.2.2.1 rfl
  go_wp2_with fail
  refine (CI.out _ _ _ _ _ Y1.out.2.2.2.2.1 Y1.out.2.2.2.2.2.2).mono ?_
  rintro e wg ⟨rfl, hB⟩
  have Z := Lib.hid (XS1L.out _ _ Y1.out hB)
  clear hB Y1 x0_0 x1_0 x1_1 y0_0 y1_0 y1_1
  have x0_0 := cell_at (o := 0) Z.out.2.1 rfl
  have x1_0 := cell_at (o := 0) Z.out.2.2.1 rfl
  have x1_1 := cell_at (o := 1) Z.out.2.2.1 rfl
  have y0_0 := cell_at (o := 0) Z.out.2.2.2.1 rfl
  have y1_0 := cell_at (o := 0) Z.out.2.2.2.2.2.1 rfl
  have y1_1 := cell_at (o := 1) Z.out.2.2.2.2.2.1 rfl
  go_wp2_with fail
  have CE0 : Hid (∀ W, (Below w.heap.size w W ∧ W.heap[w.heap.size]? = some (.cells #[.slice a0_0 x0.tables.length c0_0] 24) ∧ W.heap[w.heap.size + 1]? = some (.cells #[.slice a1_0 x1.tables.length c1_0, .int .i64 x1.next] 27) ∧ W.heap[wx0.heap.size]? = some (.cells #[.slice (some ⟨p0_0, 0, none⟩) x0.tables.length x0.tables.length] 37) ∧ Rd W (fun _ => True) (dTableS x0.tables) (.slice (some ⟨p0_0, 0, none⟩) x0.tables.length x0.tables.length) ∧ W.heap[wx1.heap.size]? = some (.cells #[.slice (some ⟨p1_0, 0, none⟩) x1.tables.length x1.tables.length, .int .i64 x1.next] 32) ∧ Rd W (fun _ => True) (dRowSS x1.tables) (.slice (some ⟨p1_0, 0, none⟩) x1.tables.length x1.tables.length)) → (W.cell? ⟨w.heap.size, 0, none⟩ = some (.slice a0_0 x0.tables.length c0_0) ∧ W.cell? ⟨wx0.heap.size, 0, none⟩ = some (.slice (some ⟨p0_0, 0, none⟩) x0.tables.length x0.tables.length))) := fun W h => ⟨cell_at (o := 0) h.2.1 rfl, cell_at (o := 0) h.2.2.2.1 rfl⟩
  have hx := Z.out
  clear Z
  have XA : Hid (∀ W, (Below w.heap.size w W ∧ W.heap[w.heap.size]? = some (.cells #[.slice a0_0 x0.tables.length c0_0] 24) ∧ W.heap[w.heap.size + 1]? = some (.cells #[.slice a1_0 x1.tables.length c1_0, .int .i64 x1.next] 27) ∧ W.heap[wx0.heap.size]? = some (.cells #[.slice (some ⟨p0_0, 0, none⟩) x0.tables.length x0.tables.length] 37) ∧ Rd W (fun _ => True) (dTableS x0.tables) (.slice (some ⟨p0_0, 0, none⟩) x0.tables.length x0.tables.length) ∧ W.heap[wx1.heap.size]? = some (.cells #[.slice (some ⟨p1_0, 0, none⟩) x1.tables.length x1.tables.length, .int .i64 x1.next] 32) ∧ Rd W (fun _ => True) (dRowSS x1.tables) (.slice (some ⟨p1_0, 0, none⟩) x1.tables.length x1.tables.length)) → (Below w.heap.size w W ∧ W.heap[w.heap.size]? = some (.cells #[.slice a0_0 x0.tables.length c0_0] 24) ∧ W.heap[w.heap.size + 1]? = some (.cells #[.slice a1_0 x1.tables.length c1_0, .int .i64 x1.next] 27))) := fun W h => ⟨h.1, h.2.1, h.2.2.1⟩
  refine wp_region_held_drew (S := (fun W => W.cell? ⟨w.heap.size, 0, none⟩ = some (.slice a0_0 x0.tables.length c0_0) ∧ W.cell? ⟨wx0.heap.size, 0, none⟩ = some (.slice (some ⟨p0_0, 0, none⟩) x0.tables.length x0.tables.length))) (by kernel_rfl) ?_ (fun hHeld => ?_)
  · (first | exact CE0.out _ hx | exact CE0.out _ (XS1L.out _ _ hx (Below.refl _ _).drew))
  refine wpAnyH_take (i := 0) (v := ?_) rfl (by kernel_rfl) (by kernel_rfl) (by kernel_rfl) (fun _ _ _ h => h) (Or.inl ⟨by kernel_rfl, ?_⟩) (by assumption) ?_
  rotate_left
  · (intro wS hSw; (try dsimp only at hSw); go_simp <;> with_reducible rfl)
  try simp only [Act.put, tkS]
  refine wpAnyH_take (i := 1) (v := ?_) rfl (by kernel_rfl) (by kernel_rfl) (by kernel_rfl) (fun _ _ _ h => h) (Or.inl ⟨by kernel_rfl, ?_⟩) (by assumption) ?_
  rotate_left
  · (intro wS hSw; (try dsimp only at hSw); go_simp <;> with_reducible rfl)
  try simp only [Act.put, tkS]
  refine wpAnyH_ready (rs := [2]) (by kernel_rfl) (by simp) (AllReadyH.cons rfl (fun K hK => ?_) AllReadyH.nil)
  go_simp
  (go_at_call 8; refine (TO0.out _ (by first | exact XA.out _ hx | exact XA.out _ (XS1L.out _ _ hx (Below.refl _ _).drew))).mono ?_; rintro e we0 ⟨s0_0, rfl, ho, hB, _⟩; have h2 : Below w.heap.size w we0 ∧ we0.heap[w.heap.size]? = some (.cells #[.slice a0_0 x0.tables.length c0_0] 24) ∧ we0.heap[w.heap.size + 1]? = some (.cells #[.slice a1_0 x1.tables.length c1_0, .int .i64 x1.next] 27) ∧ we0.heap[wx0.heap.size]? = some (.cells #[.slice (some ⟨p0_0, 0, none⟩) x0.tables.length x0.tables.length] 37) ∧ Rd we0 (fun _ => True) (dTableS x0.tables) (.slice (some ⟨p0_0, 0, none⟩) x0.tables.length x0.tables.length) ∧ we0.heap[wx1.heap.size]? = some (.cells #[.slice (some ⟨p1_0, 0, none⟩) x1.tables.length x1.tables.length, .int .i64 x1.next] 32) ∧ Rd we0 (fun _ => True) (dRowSS x1.tables) (.slice (some ⟨p1_0, 0, none⟩) x1.tables.length x1.tables.length) := (by first | exact XS1L.out _ _ hx hB | exact XS1L.out _ _ (XS1L.out _ _ hx (Below.refl _ _).drew) hB); clear hx; have hx := h2; clear h2; have RE0_0 : Hid (Rd _ (fun _ => True) (dTableS x0.tables) (.slice (some ⟨s0_0, 0, none⟩) x0.tables.length x0.tables.length)) := (Owns.one ho (j := 0) (by omega)).rd'.any; clear hB ho)
  refine hK.out _ _ ?_ (fun hHeld => ?_)
  · (first | exact CE0.out _ hx | exact CE0.out _ (XS1L.out _ _ hx (Below.refl _ _).drew))
  clear hK K
  try simp only [Act.put, tkS]
  refine wpAnyH_ready (rs := [3]) (by kernel_rfl) (by simp) (AllReadyH.cons rfl (fun K hK => ?_) AllReadyH.nil)
  go_simp
  (go_at_call 12; refine (EQ0.out _ _ _ _ _ (by first | exact hx.2.2.2.2.1 | exact Rd.later hx.2.2.2.2.1 (Below.refl _ _).drew) (by first | exact RE0_0.out | exact Rd.later RE0_0.out (Below.refl _ _).drew)).mono ?_; rintro e wf0 ⟨rfl, hB⟩; have h2 : Below w.heap.size w wf0 ∧ wf0.heap[w.heap.size]? = some (.cells #[.slice a0_0 x0.tables.length c0_0] 24) ∧ wf0.heap[w.heap.size + 1]? = some (.cells #[.slice a1_0 x1.tables.length c1_0, .int .i64 x1.next] 27) ∧ wf0.heap[wx0.heap.size]? = some (.cells #[.slice (some ⟨p0_0, 0, none⟩) x0.tables.length x0.tables.length] 37) ∧ Rd wf0 (fun _ => True) (dTableS x0.tables) (.slice (some ⟨p0_0, 0, none⟩) x0.tables.length x0.tables.length) ∧ wf0.heap[wx1.heap.size]? = some (.cells #[.slice (some ⟨p1_0, 0, none⟩) x1.tables.length x1.tables.length, .int .i64 x1.next] 32) ∧ Rd wf0 (fun _ => True) (dRowSS x1.tables) (.slice (some ⟨p1_0, 0, none⟩) x1.tables.length x1.tables.length) := (by first | exact XS1L.out _ _ hx hB | exact XS1L.out _ _ (XS1L.out _ _ hx (Below.refl _ _).drew) hB); clear hx hB; have hx := h2; clear h2)
  refine hK.out _ _ ?_ (fun hHeld => ?_)
  · (first | exact CE0.out _ hx | exact CE0.out _ (XS1L.out _ _ hx (Below.refl _ _).drew))
  clear hK K
  try simp only [Act.put, tkS]
  refine wpAnyH_take (i := 4) (v := ?_) rfl (by kernel_rfl) (by kernel_rfl) (by kernel_rfl) (fun _ _ _ h => h) (Or.inl ⟨by kernel_rfl, ?_⟩) (by assumption) ?_
  rotate_left
  · (intro wS hSw; (try dsimp only at hSw); go_simp <;> with_reducible rfl)
  try simp only [Act.put, tkS]
  refine wpAnyH_done (by kernel_rfl) ?_ _
  clear x0_0 x1_0 x1_1 y0_0 y1_0 y1_1 RE0_0
  have x0_0 := cell_at (o := 0) hx.2.1 rfl
  have x1_0 := cell_at (o := 0) hx.2.2.1 rfl
  have x1_1 := cell_at (o := 1) hx.2.2.1 rfl
  have y0_0 := cell_at (o := 0) hx.2.2.2.1 rfl
  have y1_0 := cell_at (o := 0) hx.2.2.2.2.2.1 rfl
  have y1_1 := cell_at (o := 1) hx.2.2.2.2.2.1 rfl
  go_wp2_with fail
  have CE1 : Hid (∀ W, (Below w.heap.size w W ∧ W.heap[w.heap.size]? = some (.cells #[.slice a0_0 x0.tables.length c0_0] 24) ∧ W.heap[w.heap.size + 1]? = some (.cells #[.slice a1_0 x1.tables.length c1_0, .int .i64 x1.next] 27) ∧ W.heap[wx0.heap.size]? = some (.cells #[.slice (some ⟨p0_0, 0, none⟩) x0.tables.length x0.tables.length] 37) ∧ Rd W (fun _ => True) (dTableS x0.tables) (.slice (some ⟨p0_0, 0, none⟩) x0.tables.length x0.tables.length) ∧ W.heap[wx1.heap.size]? = some (.cells #[.slice (some ⟨p1_0, 0, none⟩) x1.tables.length x1.tables.length, .int .i64 x1.next] 32) ∧ Rd W (fun _ => True) (dRowSS x1.tables) (.slice (some ⟨p1_0, 0, none⟩) x1.tables.length x1.tables.length)) → (W.cell? ⟨w.heap.size + 1, 0, none⟩ = some (.slice a1_0 x1.tables.length c1_0) ∧ W.cell? ⟨w.heap.size + 1, 1, none⟩ = some (.int .i64 x1.next) ∧ W.cell? ⟨wx1.heap.size, 0, none⟩ = some (.slice (some ⟨p1_0, 0, none⟩) x1.tables.length x1.tables.length) ∧ W.cell? ⟨wx1.heap.size, 1, none⟩ = some (.int .i64 x1.next))) := fun W h => ⟨cell_at (o := 0) h.2.2.1 rfl, cell_at (o := 1) h.2.2.1 rfl, cell_at (o := 0) h.2.2.2.2.2.1 rfl, cell_at (o := 1) h.2.2.2.2.2.1 rfl⟩
  refine wp_region_held_drew (S := (fun W => W.cell? ⟨w.heap.size + 1, 0, none⟩ = some (.slice a1_0 x1.tables.length c1_0) ∧ W.cell? ⟨w.heap.size + 1, 1, none⟩ = some (.int .i64 x1.next) ∧ W.cell? ⟨wx1.heap.size, 0, none⟩ = some (.slice (some ⟨p1_0, 0, none⟩) x1.tables.length x1.tables.length) ∧ W.cell? ⟨wx1.heap.size, 1, none⟩ = some (.int .i64 x1.next))) (by kernel_rfl) ?_ (fun hHeld => ?_)
  · (first | exact CE1.out _ hx | exact CE1.out _ (XS1L.out _ _ hx (Below.refl _ _).drew))
  refine wpAnyH_take (i := 0) (v := ?_) rfl (by kernel_rfl) (by kernel_rfl) (by kernel_rfl) (fun _ _ _ h => h) (Or.inl ⟨by kernel_rfl, ?_⟩) (by assumption) ?_
  rotate_left
  · (intro wS hSw; (try dsimp only at hSw); go_simp <;> with_reducible rfl)
  try simp only [Act.put, tkS]
  refine wpAnyH_take (i := 1) (v := ?_) rfl (by kernel_rfl) (by kernel_rfl) (by kernel_rfl) (fun _ _ _ h => h) (Or.inl ⟨by kernel_rfl, ?_⟩) (by assumption) ?_
  rotate_left
  · (intro wS hSw; (try dsimp only at hSw); go_simp <;> with_reducible rfl)
  try simp only [Act.put, tkS]
  refine wpAnyH_ready (rs := [2]) (by kernel_rfl) (by simp) (AllReadyH.cons rfl (fun K hK => ?_) AllReadyH.nil)
  go_simp
  (go_at_call 9; refine (TO1.out _ (by first | exact XA.out _ hx | exact XA.out _ (XS1L.out _ _ hx (Below.refl _ _).drew))).mono ?_; rintro e we1 ⟨s1_0, rfl, ho, hB, _⟩; have h2 : Below w.heap.size w we1 ∧ we1.heap[w.heap.size]? = some (.cells #[.slice a0_0 x0.tables.length c0_0] 24) ∧ we1.heap[w.heap.size + 1]? = some (.cells #[.slice a1_0 x1.tables.length c1_0, .int .i64 x1.next] 27) ∧ we1.heap[wx0.heap.size]? = some (.cells #[.slice (some ⟨p0_0, 0, none⟩) x0.tables.length x0.tables.length] 37) ∧ Rd we1 (fun _ => True) (dTableS x0.tables) (.slice (some ⟨p0_0, 0, none⟩) x0.tables.length x0.tables.length) ∧ we1.heap[wx1.heap.size]? = some (.cells #[.slice (some ⟨p1_0, 0, none⟩) x1.tables.length x1.tables.length, .int .i64 x1.next] 32) ∧ Rd we1 (fun _ => True) (dRowSS x1.tables) (.slice (some ⟨p1_0, 0, none⟩) x1.tables.length x1.tables.length) := (by first | exact XS1L.out _ _ hx hB | exact XS1L.out _ _ (XS1L.out _ _ hx (Below.refl _ _).drew) hB); clear hx; have hx := h2; clear h2; have RE1_0 : Hid (Rd _ (fun _ => True) (dRowSS x1.tables) (.slice (some ⟨s1_0, 0, none⟩) x1.tables.length x1.tables.length)) := (Owns.one ho (j := 0) (by omega)).rd'.any; clear hB ho)
  refine hK.out _ _ ?_ (fun hHeld => ?_)
  · (first | exact CE1.out _ hx | exact CE1.out _ (XS1L.out _ _ hx (Below.refl _ _).drew))
  clear hK K
  try simp only [Act.put, tkS]
  refine wpAnyH_ready (rs := [3]) (by kernel_rfl) (by simp) (AllReadyH.cons rfl (fun K hK => ?_) AllReadyH.nil)
  go_simp
  (go_at_call 11; refine (EQ1.out _ _ _ _ _ (by first | exact hx.2.2.2.2.2.2 | exact Rd.later hx.2.2.2.2.2.2 (Below.refl _ _).drew) (by first | exact RE1_0.out | exact Rd.later RE1_0.out (Below.refl _ _).drew)).mono ?_; rintro e wf1 ⟨rfl, hB⟩; have h2 : Below w.heap.size w wf1 ∧ wf1.heap[w.heap.size]? = some (.cells #[.slice a0_0 x0.tables.length c0_0] 24) ∧ wf1.heap[w.heap.size + 1]? = some (.cells #[.slice a1_0 x1.tables.length c1_0, .int .i64 x1.next] 27) ∧ wf1.heap[wx0.heap.size]? = some (.cells #[.slice (some ⟨p0_0, 0, none⟩) x0.tables.length x0.tables.length] 37) ∧ Rd wf1 (fun _ => True) (dTableS x0.tables) (.slice (some ⟨p0_0, 0, none⟩) x0.tables.length x0.tables.length) ∧ wf1.heap[wx1.heap.size]? = some (.cells #[.slice (some ⟨p1_0, 0, none⟩) x1.tables.length x1.tables.length, .int .i64 x1.next] 32) ∧ Rd wf1 (fun _ => True) (dRowSS x1.tables) (.slice (some ⟨p1_0, 0, none⟩) x1.tables.length x1.tables.length) := (by first | exact XS1L.out _ _ hx hB | exact XS1L.out _ _ (XS1L.out _ _ hx (Below.refl _ _).drew) hB); clear hx hB; have hx := h2; clear h2)
  refine hK.out _ _ ?_ (fun hHeld => ?_)
  · (first | exact CE1.out _ hx | exact CE1.out _ (XS1L.out _ _ hx (Below.refl _ _).drew))
  clear hK K
  try simp only [Act.put, tkS]
  refine wpAnyH_take (i := 4) (v := ?_) rfl (by kernel_rfl) (by kernel_rfl) (by kernel_rfl) (fun _ _ _ h => h) (Or.inl ⟨by kernel_rfl, ?_⟩) (by assumption) ?_
  rotate_left
  · (intro wS hSw; (try dsimp only at hSw); go_simp <;> with_reducible rfl)
  try simp only [Act.put, tkS]
  refine wpAnyH_done (by kernel_rfl) ?_ _
  clear x0_0 x1_0 x1_1 y0_0 y1_0 y1_1 RE1_0
  go_wp2_with fail
  go_ret
  exact ⟨rfl, by first | exact hx.1 | exact hx.1.drew⟩
end Go.Proofs.YtmebbinolkohjaaGreat
