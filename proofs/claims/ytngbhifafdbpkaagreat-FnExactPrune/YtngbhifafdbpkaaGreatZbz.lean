import Derived.Test.YtngbhifafdbpkaaGreatZbv
import Derived.Test.YtngbhifafdbpkaaGreatZbx
import Derived.Test.YtngbhifafdbpkaaGreatZby
import Derived.Deep.RegionHeld3
import Derived.Deep.CutRange
import Derived.Test.YtngbhifafdbpkaaGreatZTk
namespace Go.Proofs.YtngbhifafdbpkaaGreat
open Go.RowKit
set_option linter.unusedSimpArgs false
set_option maxRecDepth 100000 in
set_option maxHeartbeats 12800000 in
theorem lawPrune (x0 : ScV) (x1 : StV) (a0_0 : Option Addr) (c0_0 : Nat) (a1_0 : Option Addr) (c1_0 : Nat) (w : World) (l0_0 : (dTableS x0.tables).le maxLen) (l1_0 : (dRowSS x1.tables).le maxLen) (l1_1 : iOK x1.next) (r0_0 : Rd w (· < w.heap.size) (dTableS x0.tables) (.slice a0_0 x0.tables.length c0_0)) (r1_0 : Rd w (· < w.heap.size) (dRowSS x1.tables) (.slice a1_0 x1.tables.length c1_0)) :
    Calls Tryz.prog 3 #[.agg #[.slice a0_0 x0.tables.length c0_0], .agg #[.slice a1_0 x1.tables.length c1_0, .int .i64 x1.next]] w fun e w' => e = .returned (.bool true) ∧ Below w.heap.size w w' := by
  have HL0_0 := Lib.hid l0_0
  have HO0 : Hid (∀ j, j < 1 → (dSchema x0 j).le maxLen) := fun j hj => by
    obtain rfl : j = 0 := by omega
    exact l0_0
  have RA0_0 : Hid (∀ W, Below w.heap.size w W → Rd W (· < w.heap.size) (dTableS x0.tables) (.slice a0_0 x0.tables.length c0_0)) := fun W h => Rd.same (fun b hb => h.block b hb) (fun _ h => h) _ _ r0_0
  have HL1_0 := Lib.hid l1_0
  have HO1 : Hid (∀ j, j < 2 → (dStore x1 j).le maxLen) := fun j hj => by
    rcases (by omega : j = 0 ∨ j = 1) with rfl | rfl
    · exact l1_0
    · exact l1_1
  have RA1_0 : Hid (∀ W, Below w.heap.size w W → Rd W (· < w.heap.size) (dRowSS x1.tables) (.slice a1_0 x1.tables.length c1_0)) := fun W h => Rd.same (fun b hb => h.block b hb) (fun _ h => h) _ _ r1_0
  have ALAT : Hid (∀ W W', (Below w.heap.size w W ∧ W.heap[w.heap.size]? = some (.cells #[.slice a0_0 x0.tables.length c0_0] 24) ∧ W.heap[w.heap.size + 1]? = some (.cells #[.slice a1_0 x1.tables.length c1_0, .int .i64 x1.next] 27)) → Below W.heap.size W W' → (Below w.heap.size w W' ∧ W'.heap[w.heap.size]? = some (.cells #[.slice a0_0 x0.tables.length c0_0] 24) ∧ W'.heap[w.heap.size + 1]? = some (.cells #[.slice a1_0 x1.tables.length c1_0, .int .i64 x1.next] 27))) := fun W W' h hB => ⟨h.1.trans (hB.mono h.1.size), heap_keptD h.2.1 hB, heap_keptD h.2.2 hB⟩
  have A0 : Hid (Below w.heap.size w ((w.alloc (.cells #[.slice a0_0 x0.tables.length c0_0] 24)).alloc (.cells #[.slice a1_0 x1.tables.length c1_0, .int .i64 x1.next] 27)) ∧ ((w.alloc (.cells #[.slice a0_0 x0.tables.length c0_0] 24)).alloc (.cells #[.slice a1_0 x1.tables.length c1_0, .int .i64 x1.next] 27)).heap[w.heap.size]? = some (.cells #[.slice a0_0 x0.tables.length c0_0] 24) ∧ ((w.alloc (.cells #[.slice a0_0 x0.tables.length c0_0] 24)).alloc (.cells #[.slice a1_0 x1.tables.length c1_0, .int .i64 x1.next] 27)).heap[w.heap.size + 1]? = some (.cells #[.slice a1_0 x1.tables.length c1_0, .int .i64 x1.next] 27)) := by
    refine ⟨(below_allocD _ _).trans ((below_allocD _ _).mono (by simp)), heap_keptD (heap_newD _ _) (below_allocD _ _), ?_⟩
    have h := heap_newD (w.alloc (.cells #[.slice a0_0 x0.tables.length c0_0] 24)) (.cells #[.slice a1_0 x1.tables.length c1_0, .int .i64 x1.next] 27)
    rw [size_allocD] at h
    exact h
  clear l0_0 r0_0 l1_0 r1_0 l1_1
  have x0_0 := cell_at (o := 0) A0.out.2.1 rfl
  have x1_0 := cell_at (o := 0) A0.out.2.2 rfl
  have x1_1 := cell_at (o := 1) A0.out.2.2 rfl
  go_enter Tryz.func3, Tryz.ntmps3
  go_wp2_with fail
  have bl : Hid ((0 : Int) ≤ 1048576 ∧ (1048576 : Int) ≤ 1048576) := by show _ ∧ _; omega
  refine (szDSchema x0 a0_0 c0_0 1048576 _ _ bl.out.1 bl.out.2 HO0.out (RA0_0.out _ A0.out.1)).mono ?_
  rintro e ws0 ⟨rfl, hB⟩
  have AS0 := Lib.hid (ALAT.out _ _ A0.out hB)
  clear hB A0 x0_0 x1_0 x1_1
  have x0_0 := cell_at (o := 0) AS0.out.2.1 rfl
  have x1_0 := cell_at (o := 0) AS0.out.2.2 rfl
  have x1_1 := cell_at (o := 1) AS0.out.2.2 rfl
  by_cases hz0 : (1048576 : Int) - (szT 1 (dSchema x0) : Int) < 0
  case pos =>
    rw [less_no hz0]
    go_wp2_with fail
    go_ret
    exact ⟨rfl, AS0.out.1⟩
  rw [less_yes (by omega)]
  obtain ⟨L0, hL0⟩ : ∃ L0 : Int, L0 = 1048576 - (szT 1 (dSchema x0) : Int) := ⟨_, rfl⟩
  rw [← hL0]
  have dL0 : decide (L0 < 0) = false := decide_eq_false (by omega)
  have HZ0 : Hid (szT 1 (dSchema x0) ≤ 1048576) := by have := bl.out; show _ ≤ _; omega
  have b2 : Hid (0 ≤ L0 ∧ L0 ≤ 1048576) := by have := bl.out; show _ ∧ _; omega
  clear hz0 hL0 bl
  have bl := b2
  clear b2
  go_wp2_with fail
  refine (szDStore x1 a1_0 c1_0 L0 _ _ bl.out.1 bl.out.2 HO1.out (RA1_0.out _ AS0.out.1)).mono ?_
  rintro e ws1 ⟨rfl, hB⟩
  have AS1 := Lib.hid (ALAT.out _ _ AS0.out hB)
  clear hB AS0 x0_0 x1_0 x1_1
  have x0_0 := cell_at (o := 0) AS1.out.2.1 rfl
  have x1_0 := cell_at (o := 0) AS1.out.2.2 rfl
  have x1_1 := cell_at (o := 1) AS1.out.2.2 rfl
  by_cases hz1 : L0 - (szT 2 (dStore x1) : Int) < 0
  case pos =>
    rw [less_no hz1]
    go_wp2_with fail
    go_ret
    exact ⟨rfl, AS1.out.1⟩
  rw [less_yes (by omega)]
  obtain ⟨L1, hL1⟩ : ∃ L1 : Int, L1 = L0 - (szT 2 (dStore x1) : Int) := ⟨_, rfl⟩
  rw [← hL1]
  have dL1 : decide (L1 < 0) = false := decide_eq_false (by omega)
  have HZ1 : Hid (szT 2 (dStore x1) ≤ 1048576) := by have := bl.out; show _ ≤ _; omega
  have b2 : Hid (0 ≤ L1 ∧ L1 ≤ 1048576) := by have := bl.out; show _ ∧ _; omega
  clear hz1 hL1 bl
  have bl := b2
  clear b2
  go_upto_region 8 with fail
  have HK0 : Hid (∀ j, j < 1 → (dSchema x0 j).le 1048576) := fun j hj => D.le_of_sz _ (HO0.out j hj) (Nat.le_trans (sumN_le (g := fun j => (dSchema x0 j).sz) hj) HZ0.out)
  have HK1 : Hid (∀ j, j < 2 → (dStore x1 j).le 1048576) := fun j hj => D.le_of_sz _ (HO1.out j hj) (Nat.le_trans (sumN_le (g := fun j => (dStore x1 j).sz) hj) HZ1.out)
  have TO0 : Hid (∀ W, (Below w.heap.size w W ∧ W.heap[w.heap.size]? = some (.cells #[.slice a0_0 x0.tables.length c0_0] 24) ∧ W.heap[w.heap.size + 1]? = some (.cells #[.slice a1_0 x1.tables.length c1_0, .int .i64 x1.next] 27)) → Calls Tryz.prog 7 #[.agg #[.slice a0_0 x0.tables.length c0_0]] W fun e w' => ∃ p0 : Nat, e = .returned (.agg #[.slice (some ⟨p0, 0, none⟩) x0.tables.length x0.tables.length]) ∧ Owns w' 1 (dSchema x0) (vat [.slice (some ⟨p0, 0, none⟩) x0.tables.length x0.tables.length]) (fun c => W.heap.size ≤ c ∧ c < w'.heap.size) ∧ Below W.heap.size W w' ∧ (Below w.heap.size w w' ∧ w'.heap[w.heap.size]? = some (.cells #[.slice a0_0 x0.tables.length c0_0] 24) ∧ w'.heap[w.heap.size + 1]? = some (.cells #[.slice a1_0 x1.tables.length c1_0, .int .i64 x1.next] 27))) := fun W h => (toDSchema x0 a0_0 c0_0 _ W HK0.out (RA0_0.out W h.1)).mono (fun e w' ⟨p0, he, ho, hB⟩ => ⟨p0, he, ho, hB, ALAT.out _ _ h hB⟩)
  have TO1 : Hid (∀ W, (Below w.heap.size w W ∧ W.heap[w.heap.size]? = some (.cells #[.slice a0_0 x0.tables.length c0_0] 24) ∧ W.heap[w.heap.size + 1]? = some (.cells #[.slice a1_0 x1.tables.length c1_0, .int .i64 x1.next] 27)) → Calls Tryz.prog 8 #[.agg #[.slice a1_0 x1.tables.length c1_0, .int .i64 x1.next]] W fun e w' => ∃ p0 : Nat, e = .returned (.agg #[.slice (some ⟨p0, 0, none⟩) x1.tables.length x1.tables.length, .int .i64 x1.next]) ∧ Owns w' 2 (dStore x1) (vat [.slice (some ⟨p0, 0, none⟩) x1.tables.length x1.tables.length, .int .i64 x1.next]) (fun c => W.heap.size ≤ c ∧ c < w'.heap.size) ∧ Below W.heap.size W w' ∧ (Below w.heap.size w w' ∧ w'.heap[w.heap.size]? = some (.cells #[.slice a0_0 x0.tables.length c0_0] 24) ∧ w'.heap[w.heap.size + 1]? = some (.cells #[.slice a1_0 x1.tables.length c1_0, .int .i64 x1.next] 27))) := fun W h => (toDStore x1 a1_0 c1_0 _ W HK1.out (RA1_0.out W h.1)).mono (fun e w' ⟨p0, he, ho, hB⟩ => ⟨p0, he, ho, hB, ALAT.out _ _ h hB⟩)
  obtain ⟨R0, hR0⟩ : ∃ r, r = prS x0.tables x1 := ⟨_, rfl⟩
  obtain ⟨R1, hR1⟩ : ∃ r, r = prC x0.tables x1 := ⟨_, rfl⟩
  have CS : Hid (∀ (W : World) (b0_0 : Option Addr) (e0_0 : Nat) (b1_0 : Option Addr) (e1_0 : Nat), Rd W (fun _ => True) (dTableS x0.tables) (.slice b0_0 x0.tables.length e0_0) → Rd W (fun _ => True) (dRowSS x1.tables) (.slice b1_0 x1.tables.length e1_0) → Calls Tryz.prog 6 #[.agg #[.slice b0_0 x0.tables.length e0_0], .agg #[.slice b1_0 x1.tables.length e1_0, .int .i64 x1.next]] W fun e w' => ∃ (ra : Option Addr) (rc : Nat), e = .returned (.tuple #[.agg #[.slice ra R0.tables.length rc, .int .i64 R0.next], .int .i64 R1]) ∧ Rd w' (fun c => W.heap.size ≤ c ∧ c < w'.heap.size) (dRowSS R0.tables) (.slice ra R0.tables.length rc) ∧ Below W.heap.size W w') := fun W b0_0 e0_0 b1_0 e1_0 h0_0 h1_0 => by rw [hR0, hR1]; exact pruneSL x0.tables b0_0 e0_0 _ x1 b1_0 e1_0 _ W HL0_0.out (HK1.out 0 (by omega)) h0_0 h1_0
  have CI : Hid (∀ (W : World) (b0_0 : Option Addr) (e0_0 : Nat) (b1_0 : Option Addr) (e1_0 : Nat), Rd W (fun _ => True) (dTableS x0.tables) (.slice b0_0 x0.tables.length e0_0) → Rd W (fun _ => True) (dRowSS x1.tables) (.slice b1_0 x1.tables.length e1_0) → Calls Tryz.prog 9 #[.agg #[.slice b0_0 x0.tables.length e0_0], .agg #[.slice b1_0 x1.tables.length e1_0, .int .i64 x1.next]] W fun e w' => ∃ (ra : Option Addr) (rc : Nat), e = .returned (.tuple #[.agg #[.slice ra R0.tables.length rc, .int .i64 R0.next], .int .i64 R1]) ∧ Own w' (dRowSS R0.tables) (fun c => W.heap.size ≤ c ∧ c < w'.heap.size) (.slice ra R0.tables.length rc) ∧ Below W.heap.size W w') := fun W b0_0 e0_0 b1_0 e1_0 h0_0 h1_0 => by rw [hR0, hR1]; exact pruneIL x0.tables b0_0 e0_0 _ x1 b1_0 e1_0 _ W HL0_0.out (HK1.out 0 (by omega)) h0_0 h1_0
  have HRB : Hid ((∀ j, j < 2 → (dStore R0 j).le maxLen) ∧ (dRowSS R0.tables).sz ≤ 100000000) := by rw [hR0]; exact pr_le (HK1.out 0 (by omega)) (HO1.out 1 (by omega)) (by have := HZ1.out; rw [szT_Store] at this; exact this)
  have HRW : Hid (1 + (dRowSS R0.tables).wd < 100000000000) := by have h1 := D.wd_le (dRowSS R0.tables) (HRB.out.1 0 (by omega)); have h2 := HRB.out.2; show _ < _; omega
  have nq1 : (R1 != R1) = false := by simp
  clear hR0 hR1
  have EQ0 : Hid (∀ (W : World) (b0 : Option Addr) (e0 : Nat) (f0 : Option Addr) (g0 : Nat), Rd W (fun _ => True) (dTableS x0.tables) (.slice b0 x0.tables.length e0) → Rd W (fun _ => True) (dTableS x0.tables) (.slice f0 x0.tables.length g0) → Calls Tryz.prog 11 #[.agg #[.slice b0 x0.tables.length e0], .agg #[.slice f0 x0.tables.length g0]] W fun e w' => e = .returned (.bool true) ∧ Below W.heap.size W w') := fun W b0 e0 f0 g0 h0 i0 => eqDSchema x0 b0 e0 f0 g0 _ _ W HO0.out h0 i0
  have EQ1 : Hid (∀ (W : World) (b0 : Option Addr) (e0 : Nat) (f0 : Option Addr) (g0 : Nat), Rd W (fun _ => True) (dRowSS x1.tables) (.slice b0 x1.tables.length e0) → Rd W (fun _ => True) (dRowSS x1.tables) (.slice f0 x1.tables.length g0) → Calls Tryz.prog 10 #[.agg #[.slice b0 x1.tables.length e0, .int .i64 x1.next], .agg #[.slice f0 x1.tables.length g0, .int .i64 x1.next]] W fun e w' => e = .returned (.bool true) ∧ Below W.heap.size W w') := fun W b0 e0 f0 g0 h0 i0 => eqDStore x1 b0 e0 f0 g0 _ _ W HO1.out h0 i0
  have HOR := Lib.hid HRB.out.1
  have EQR : Hid (∀ (W : World) (b0 : Option Addr) (e0 : Nat) (f0 : Option Addr) (g0 : Nat), Rd W (fun _ => True) (dRowSS R0.tables) (.slice b0 R0.tables.length e0) → Rd W (fun _ => True) (dRowSS R0.tables) (.slice f0 R0.tables.length g0) → Calls Tryz.prog 10 #[.agg #[.slice b0 R0.tables.length e0, .int .i64 R0.next], .agg #[.slice f0 R0.tables.length g0, .int .i64 R0.next]] W fun e w' => e = .returned (.bool true) ∧ Below W.heap.size W w') := fun W b0 e0 f0 g0 h0 i0 => eqDStore R0 b0 e0 f0 g0 _ _ W HOR.out h0 i0
  have HST : Hid (∀ W, Below ws1.heap.size ws1 W → (Below w.heap.size w W ∧ W.heap[w.heap.size]? = some (.cells #[.slice a0_0 x0.tables.length c0_0] 24) ∧ W.heap[w.heap.size + 1]? = some (.cells #[.slice a1_0 x1.tables.length c1_0, .int .i64 x1.next] 27))) := fun W h => ALAT.out _ _ AS1.out h
  have CE : Hid (∀ W, (Below w.heap.size w W ∧ W.heap[w.heap.size]? = some (.cells #[.slice a0_0 x0.tables.length c0_0] 24) ∧ W.heap[w.heap.size + 1]? = some (.cells #[.slice a1_0 x1.tables.length c1_0, .int .i64 x1.next] 27)) → (W.cell? ⟨w.heap.size, 0, none⟩ = some (.slice a0_0 x0.tables.length c0_0) ∧ W.cell? ⟨w.heap.size + 1, 0, none⟩ = some (.slice a1_0 x1.tables.length c1_0) ∧ W.cell? ⟨w.heap.size + 1, 1, none⟩ = some (.int .i64 x1.next))) := fun W h => ⟨cell_at (o := 0) h.2.1 rfl, cell_at (o := 0) h.2.2 rfl, cell_at (o := 1) h.2.2 rfl⟩
  have HSX : Hid (∀ W, (Below w.heap.size w W ∧ W.heap[w.heap.size]? = some (.cells #[.slice a0_0 x0.tables.length c0_0] 24) ∧ W.heap[w.heap.size + 1]? = some (.cells #[.slice a1_0 x1.tables.length c1_0, .int .i64 x1.next] 27)) → (Below w.heap.size w W ∧ W.heap[w.heap.size]? = some (.cells #[.slice a0_0 x0.tables.length c0_0] 24) ∧ W.heap[w.heap.size + 1]? = some (.cells #[.slice a1_0 x1.tables.length c1_0, .int .i64 x1.next] 27))) := fun W h => ⟨h.1, h.2.1, h.2.2⟩
  clear AS1 x0_0 x1_0 x1_1
  go_cut [6, 7] from 27 to 34 (fun s0 s1 wx => ∃ (ra : Option Addr) (rc b0 : Nat), s0 = .pointer (some ⟨b0, 0, none⟩) ∧ s1 = .int .i64 R1 ∧ Hid ((Below w.heap.size w wx ∧ wx.heap[w.heap.size]? = some (.cells #[.slice a0_0 x0.tables.length c0_0] 24) ∧ wx.heap[w.heap.size + 1]? = some (.cells #[.slice a1_0 x1.tables.length c1_0, .int .i64 x1.next] 27) ∧ wx.heap[b0]? = some (.cells #[.slice ra R0.tables.length rc, .int .i64 R0.next] 32) ∧ Rd wx (· < wx.heap.size) (dRowSS R0.tables) (.slice ra R0.tables.length rc)) ∧ w.heap.size + 2 ≤ wx.heap.size ∧ b0 < wx.heap.size))
  case first =>
    have BS : Hid (Below ws1.heap.size ws1 ws1) := Below.refl _ _
    refine wp_region_held_drew (S := (fun W => W.cell? ⟨w.heap.size, 0, none⟩ = some (.slice a0_0 x0.tables.length c0_0) ∧ W.cell? ⟨w.heap.size + 1, 0, none⟩ = some (.slice a1_0 x1.tables.length c1_0) ∧ W.cell? ⟨w.heap.size + 1, 1, none⟩ = some (.int .i64 x1.next))) (by kernel_rfl) ?_ (fun hHeld => ?_)
    · (first | exact CE.out _ (HST.out _ BS.out) | exact CE.out _ (HST.out _ BS.out.drew))
    refine tkB (i := 0) ?_
    refine tkB (i := 2) ?_
    refine wpAnyH_ready (rs := [1, 8]) (by kernel_rfl) (by simp) (AllReadyH.cons rfl (fun K hK => ?_) (AllReadyH.cons rfl (fun K hK => ?_) AllReadyH.nil))
    ·
      go_simp
      go_at_call 7
      refine (TO0.out _ (by first | exact HSX.out _ (HST.out _ BS.out) | exact HSX.out _ (HST.out _ BS.out.drew))).mono ?_
      rintro e wt0 ⟨p0_0, rfl, ho, hB, -⟩
      have hb : Below ws1.heap.size ws1 wt0 := by first | exact hB | exact (Below.refl _ _).drew.trans hB
      have BS' : Hid (Below ws1.heap.size ws1 wt0) := BS.out.trans (hb.mono BS.out.size)
      clear BS
      have BS := BS'
      clear BS'
      have RC0_0 : Hid (∀ W, Below wt0.heap.size wt0 W → Rd W (fun _ => True) (dTableS x0.tables) (.slice (some ⟨p0_0, 0, none⟩) x0.tables.length x0.tables.length)) := fun W h => Rd.later ((Owns.one ho (j := 0) (by omega)).rd'.any) h
      have BC0 : Hid (Below wt0.heap.size wt0 wt0) := Below.refl _ _
      clear hb hB ho
      refine hK.out _ _ ?_ (fun hHeld => ?_)
      · (first | exact CE.out _ (HST.out _ BS.out) | exact CE.out _ (HST.out _ BS.out.drew))
      clear hK K
      try simp only [Act.put, tkS]
      refine wpAnyH_ready (rs := [3, 8]) (by kernel_rfl) (by simp) (AllReadyH.cons rfl (fun K hK => ?_) (AllReadyH.cons rfl (fun K hK => ?_) AllReadyH.nil))
      ·
        go_simp
        go_at_call 8
        refine (TO1.out _ (by first | exact HSX.out _ (HST.out _ BS.out) | exact HSX.out _ (HST.out _ BS.out.drew))).mono ?_
        rintro e wt1 ⟨p1_0, rfl, ho, hB, -⟩
        have hb : Below wt0.heap.size wt0 wt1 := by first | exact hB | exact (Below.refl _ _).drew.trans hB
        have BS' : Hid (Below ws1.heap.size ws1 wt1) := BS.out.trans (hb.mono BS.out.size)
        clear BS
        have BS := BS'
        clear BS'
        have BC0' : Hid (Below wt0.heap.size wt0 wt1) := BC0.out.trans (hb.mono BC0.out.size)
        clear BC0
        have BC0 := BC0'
        clear BC0'
        have RC1_0 : Hid (∀ W, Below wt1.heap.size wt1 W → Rd W (fun _ => True) (dRowSS x1.tables) (.slice (some ⟨p1_0, 0, none⟩) x1.tables.length x1.tables.length)) := fun W h => Rd.later ((Owns.one ho (j := 0) (by omega)).rd'.any) h
        have BC1 : Hid (Below wt1.heap.size wt1 wt1) := Below.refl _ _
        clear hb hB ho
        refine hK.out _ _ ?_ (fun hHeld => ?_)
        · (first | exact CE.out _ (HST.out _ BS.out) | exact CE.out _ (HST.out _ BS.out.drew))
        clear hK K
        try simp only [Act.put, tkS]
        refine wpAnyH_ready (rs := [4, 8]) (by kernel_rfl) (by simp) (AllReadyH.cons rfl (fun K hK => ?_) (AllReadyH.cons rfl (fun K hK => ?_) AllReadyH.nil))
        ·
          go_simp
          go_at_call 6
          refine (CS.out _ _ _ _ _ (by first | exact RC0_0.out _ BC0.out | exact RC0_0.out _ BC0.out.drew) (by first | exact RC1_0.out _ BC1.out | exact RC1_0.out _ BC1.out.drew)).mono ?_
          rintro e w2 ⟨ra, rc, rfl, hr2, hB⟩
          have hb : Below wt1.heap.size wt1 w2 := by first | exact hB | exact (Below.refl _ _).drew.trans hB
          have BS' : Hid (Below ws1.heap.size ws1 w2) := BS.out.trans (hb.mono BS.out.size)
          clear BS
          have BS := BS'
          clear BS'
          have BC0' : Hid (Below wt0.heap.size wt0 w2) := BC0.out.trans (hb.mono BC0.out.size)
          clear BC0
          have BC0 := BC0'
          clear BC0'
          have BC1' : Hid (Below wt1.heap.size wt1 w2) := BC1.out.trans (hb.mono BC1.out.size)
          clear BC1
          have BC1 := BC1'
          clear BC1'
          have HR2 : Hid (Rd w2 (fun b => wt1.heap.size ≤ b ∧ b < w2.heap.size) (dRowSS R0.tables) (.slice ra R0.tables.length rc)) := by first | exact hr2 | (simpa using hr2)
          clear hb hB hr2
          refine hK.out _ _ ?_ (fun hHeld => ?_)
          · (first | exact CE.out _ (HST.out _ BS.out) | exact CE.out _ (HST.out _ BS.out.drew))
          clear hK K
          try simp only [Act.put, tkS]
          refine tkB (i := 5) ?_
          refine tkB (i := 6) ?_
          refine tkB (i := 7) ?_
          refine tkR (i := 8) (fun K hK => ?_)
          go_simp
          have BSW : Hid (Below ws1.heap.size ws1 w2) := BS.out
          have BS' : Hid (Below ws1.heap.size ws1 (w2.alloc (.cells #[.slice none 0 0, .int .i64 0] 32))) := BS.out.alloc BS.out.size _
          clear BS
          have BS := BS'
          clear BS'
          have BC0' : Hid (Below wt0.heap.size wt0 (w2.alloc (.cells #[.slice none 0 0, .int .i64 0] 32))) := BC0.out.alloc BC0.out.size _
          clear BC0
          have BC0 := BC0'
          clear BC0'
          have BC1' : Hid (Below wt1.heap.size wt1 (w2.alloc (.cells #[.slice none 0 0, .int .i64 0] 32))) := BC1.out.alloc BC1.out.size _
          clear BC1
          have BC1 := BC1'
          clear BC1'
          have HZ : Hid (∀ W, Below (w2.alloc (.cells #[.slice none 0 0, .int .i64 0] 32)).heap.size (w2.alloc (.cells #[.slice none 0 0, .int .i64 0] 32)) W → W.heap[w2.heap.size]? = some (.cells #[.slice none 0 0, .int .i64 0] 32)) := fun W h => heap_keptD (heap_newD _ _) h
          have BA : Hid (Below (w2.alloc (.cells #[.slice none 0 0, .int .i64 0] 32)).heap.size (w2.alloc (.cells #[.slice none 0 0, .int .i64 0] 32)) (w2.alloc (.cells #[.slice none 0 0, .int .i64 0] 32))) := Below.refl _ _
          refine hK.out _ _ ?_ (fun hHeld => ?_)
          · (first | exact CE.out _ (HST.out _ BS.out) | exact CE.out _ (HST.out _ BS.out.drew))
          clear hK K
          try simp only [Act.put, tkS]
          refine tkR (i := 9) (fun K hK => ?_)
          go_simp
          have hbw2 : Below ws1.heap.size ws1 w2 := BSW.out
          have BT : Hid (Below ws1.heap.size ws1 (w2.alloc (.cells #[.slice ra R0.tables.length rc, .int .i64 R0.next] 32))) := hbw2.alloc hbw2.size _
          clear BS hbw2
          have BS := BT
          clear BT
          refine hK.out _ _ ?_ (fun hHeld => ?_)
          · (first | exact CE.out _ (HST.out _ BS.out) | exact CE.out _ (HST.out _ BS.out.drew))
          clear hK K
          try simp only [Act.put, tkS]
          refine tkB (i := 10) ?_
          refine wpAnyH_done (by kernel_rfl) ?_ _
          have HF := Lib.hid (HST.out _ BS.out)
          go_wp2_with fail
          go_meet
          refine ⟨ra, rc, _, rfl, rfl, ⟨HF.out.1, HF.out.2.1, HF.out.2.2, heap_newD _ _, (HR2.out.later (below_allocD _ _)).mono (fun b hb => by have := hb.2; simp; omega)⟩, by have h := (Array.getElem?_eq_some_iff.1 HF.out.2.2).1; omega, by simp⟩
        ·
          go_simp
          have LO : Hid (ws1.heap.size ≤ wt1.heap.size) := BS.out.size
          have BS' : Hid (Below ws1.heap.size ws1 (wt1.alloc (.cells #[.slice none 0 0, .int .i64 0] 32))) := BS.out.alloc BS.out.size _
          clear BS
          have BS := BS'
          clear BS'
          have BC0' : Hid (Below wt0.heap.size wt0 (wt1.alloc (.cells #[.slice none 0 0, .int .i64 0] 32))) := BC0.out.alloc BC0.out.size _
          clear BC0
          have BC0 := BC0'
          clear BC0'
          have BC1' : Hid (Below wt1.heap.size wt1 (wt1.alloc (.cells #[.slice none 0 0, .int .i64 0] 32))) := BC1.out.alloc BC1.out.size _
          clear BC1
          have BC1 := BC1'
          clear BC1'
          have HZ : Hid (∀ W, Below (wt1.alloc (.cells #[.slice none 0 0, .int .i64 0] 32)).heap.size (wt1.alloc (.cells #[.slice none 0 0, .int .i64 0] 32)) W → W.heap[wt1.heap.size]? = some (.cells #[.slice none 0 0, .int .i64 0] 32)) := fun W h => heap_keptD (heap_newD _ _) h
          have BA : Hid (Below (wt1.alloc (.cells #[.slice none 0 0, .int .i64 0] 32)).heap.size (wt1.alloc (.cells #[.slice none 0 0, .int .i64 0] 32)) (wt1.alloc (.cells #[.slice none 0 0, .int .i64 0] 32))) := Below.refl _ _
          refine hK.out _ _ ?_ (fun hHeld => ?_)
          · (first | exact CE.out _ (HST.out _ BS.out) | exact CE.out _ (HST.out _ BS.out.drew))
          clear hK K
          try simp only [Act.put, tkS]
          refine tkR (i := 4) (fun K hK => ?_)
          go_simp
          have LT0 : Hid (wt1.heap.size < (wt1.alloc (.cells #[.slice none 0 0, .int .i64 0] 32)).heap.size) := (Array.getElem?_eq_some_iff.1 (HZ.out _ BA.out)).1
          go_at_call 6
          refine (CS.out _ _ _ _ _ (by first | exact RC0_0.out _ BC0.out | exact RC0_0.out _ BC0.out.drew) (by first | exact RC1_0.out _ BC1.out | exact RC1_0.out _ BC1.out.drew)).mono ?_
          rintro e w2 ⟨ra, rc, rfl, hr2, hB⟩
          have hb : Below (wt1.alloc (.cells #[.slice none 0 0, .int .i64 0] 32)).heap.size (wt1.alloc (.cells #[.slice none 0 0, .int .i64 0] 32)) w2 := by first | exact hB | exact (Below.refl _ _).drew.trans hB
          have BS' : Hid (Below ws1.heap.size ws1 w2) := BS.out.trans (hb.mono BS.out.size)
          clear BS
          have BS := BS'
          clear BS'
          have BC0' : Hid (Below wt0.heap.size wt0 w2) := BC0.out.trans (hb.mono BC0.out.size)
          clear BC0
          have BC0 := BC0'
          clear BC0'
          have BC1' : Hid (Below wt1.heap.size wt1 w2) := BC1.out.trans (hb.mono BC1.out.size)
          clear BC1
          have BC1 := BC1'
          clear BC1'
          have BA' : Hid (Below (wt1.alloc (.cells #[.slice none 0 0, .int .i64 0] 32)).heap.size (wt1.alloc (.cells #[.slice none 0 0, .int .i64 0] 32)) w2) := BA.out.trans (hb.mono BA.out.size)
          clear BA
          have BA := BA'
          clear BA'
          have HR2 : Hid (Rd w2 (fun b => (wt1.alloc (.cells #[.slice none 0 0, .int .i64 0] 32)).heap.size ≤ b ∧ b < w2.heap.size) (dRowSS R0.tables) (.slice ra R0.tables.length rc)) := by first | exact hr2 | (simpa using hr2)
          clear hb hB hr2
          refine hK.out _ _ ?_ (fun hHeld => ?_)
          · (first | exact CE.out _ (HST.out _ BS.out) | exact CE.out _ (HST.out _ BS.out.drew))
          clear hK K
          try simp only [Act.put, tkS]
          refine tkB (i := 5) ?_
          refine tkB (i := 6) ?_
          refine tkB (i := 7) ?_
          refine tkR (i := 9) (fun K hK => ?_)
          have zc0 := cell_at (o := 0) (HZ.out _ BA.out) rfl
          have zf0 := frozen_at 0 (HZ.out _ BA.out)
          have zc1 := cell_at (o := 1) (HZ.out _ BA.out) rfl
          have zf1 := frozen_at 1 (HZ.out _ BA.out)
          go_simp
          clear zc0 zf0 zc1 zf1
          have hlo : ws1.heap.size ≤ wt1.heap.size := LO.out
          have BT : Hid (Below ws1.heap.size ws1 ((w2.setCell ⟨wt1.heap.size, 0, none⟩ (.slice ra R0.tables.length rc)).setCell ⟨wt1.heap.size, 1, none⟩ (.int .i64 R0.next))) := ((BS.out.setCell (by first | exact hlo | (show _ ≤ _; exact hlo)) _).setCell (by first | exact hlo | (show _ ≤ _; exact hlo)) _)
          clear BS hlo
          have BS := BT
          clear BT
          refine hK.out _ _ ?_ (fun hHeld => ?_)
          · (first | exact CE.out _ (HST.out _ BS.out) | exact CE.out _ (HST.out _ BS.out.drew))
          clear hK K
          try simp only [Act.put, tkS]
          refine tkB (i := 10) ?_
          refine wpAnyH_done (by kernel_rfl) ?_ _
          have HF := Lib.hid (HST.out _ BS.out)
          go_wp2_with fail
          go_meet
          refine ⟨ra, rc, _, rfl, rfl, ⟨HF.out.1, HF.out.2.1, HF.out.2.2, heap_set 1 _ (heap_set 0 _ (HZ.out _ BA.out)), (HR2.out.frm (F := (· = wt1.heap.size)) ((frm_set _ _ _ _).trans (frm_set _ _ _ _)) (fun b hb e => by have e' : b = wt1.heap.size := e; have h1 := hb.1; have h2 := LT0.out; omega)).mono (fun b hb => by have := hb.2; simpa using this)⟩, by have h := (Array.getElem?_eq_some_iff.1 HF.out.2.2).1; omega, (Array.getElem?_eq_some_iff.1 (heap_set 1 _ (heap_set 0 _ (HZ.out _ BA.out)))).1⟩
      ·
        go_simp
        have LO : Hid (ws1.heap.size ≤ wt0.heap.size) := BS.out.size
        have BS' : Hid (Below ws1.heap.size ws1 (wt0.alloc (.cells #[.slice none 0 0, .int .i64 0] 32))) := BS.out.alloc BS.out.size _
        clear BS
        have BS := BS'
        clear BS'
        have BC0' : Hid (Below wt0.heap.size wt0 (wt0.alloc (.cells #[.slice none 0 0, .int .i64 0] 32))) := BC0.out.alloc BC0.out.size _
        clear BC0
        have BC0 := BC0'
        clear BC0'
        have HZ : Hid (∀ W, Below (wt0.alloc (.cells #[.slice none 0 0, .int .i64 0] 32)).heap.size (wt0.alloc (.cells #[.slice none 0 0, .int .i64 0] 32)) W → W.heap[wt0.heap.size]? = some (.cells #[.slice none 0 0, .int .i64 0] 32)) := fun W h => heap_keptD (heap_newD _ _) h
        have BA : Hid (Below (wt0.alloc (.cells #[.slice none 0 0, .int .i64 0] 32)).heap.size (wt0.alloc (.cells #[.slice none 0 0, .int .i64 0] 32)) (wt0.alloc (.cells #[.slice none 0 0, .int .i64 0] 32))) := Below.refl _ _
        refine hK.out _ _ ?_ (fun hHeld => ?_)
        · (first | exact CE.out _ (HST.out _ BS.out) | exact CE.out _ (HST.out _ BS.out.drew))
        clear hK K
        try simp only [Act.put, tkS]
        refine tkR (i := 3) (fun K hK => ?_)
        go_simp
        go_at_call 8
        refine (TO1.out _ (by first | exact HSX.out _ (HST.out _ BS.out) | exact HSX.out _ (HST.out _ BS.out.drew))).mono ?_
        rintro e wt1 ⟨p1_0, rfl, ho, hB, -⟩
        have hb : Below (wt0.alloc (.cells #[.slice none 0 0, .int .i64 0] 32)).heap.size (wt0.alloc (.cells #[.slice none 0 0, .int .i64 0] 32)) wt1 := by first | exact hB | exact (Below.refl _ _).drew.trans hB
        have BS' : Hid (Below ws1.heap.size ws1 wt1) := BS.out.trans (hb.mono BS.out.size)
        clear BS
        have BS := BS'
        clear BS'
        have BC0' : Hid (Below wt0.heap.size wt0 wt1) := BC0.out.trans (hb.mono BC0.out.size)
        clear BC0
        have BC0 := BC0'
        clear BC0'
        have BA' : Hid (Below (wt0.alloc (.cells #[.slice none 0 0, .int .i64 0] 32)).heap.size (wt0.alloc (.cells #[.slice none 0 0, .int .i64 0] 32)) wt1) := BA.out.trans (hb.mono BA.out.size)
        clear BA
        have BA := BA'
        clear BA'
        have RC1_0 : Hid (∀ W, Below wt1.heap.size wt1 W → Rd W (fun _ => True) (dRowSS x1.tables) (.slice (some ⟨p1_0, 0, none⟩) x1.tables.length x1.tables.length)) := fun W h => Rd.later ((Owns.one ho (j := 0) (by omega)).rd'.any) h
        have BC1 : Hid (Below wt1.heap.size wt1 wt1) := Below.refl _ _
        clear hb hB ho
        refine hK.out _ _ ?_ (fun hHeld => ?_)
        · (first | exact CE.out _ (HST.out _ BS.out) | exact CE.out _ (HST.out _ BS.out.drew))
        clear hK K
        try simp only [Act.put, tkS]
        refine tkR (i := 4) (fun K hK => ?_)
        go_simp
        have LT0 : Hid (wt0.heap.size < wt1.heap.size) := (Array.getElem?_eq_some_iff.1 (HZ.out _ BA.out)).1
        go_at_call 6
        refine (CS.out _ _ _ _ _ (by first | exact RC0_0.out _ BC0.out | exact RC0_0.out _ BC0.out.drew) (by first | exact RC1_0.out _ BC1.out | exact RC1_0.out _ BC1.out.drew)).mono ?_
        rintro e w2 ⟨ra, rc, rfl, hr2, hB⟩
        have hb : Below wt1.heap.size wt1 w2 := by first | exact hB | exact (Below.refl _ _).drew.trans hB
        have BS' : Hid (Below ws1.heap.size ws1 w2) := BS.out.trans (hb.mono BS.out.size)
        clear BS
        have BS := BS'
        clear BS'
        have BC0' : Hid (Below wt0.heap.size wt0 w2) := BC0.out.trans (hb.mono BC0.out.size)
        clear BC0
        have BC0 := BC0'
        clear BC0'
        have BA' : Hid (Below (wt0.alloc (.cells #[.slice none 0 0, .int .i64 0] 32)).heap.size (wt0.alloc (.cells #[.slice none 0 0, .int .i64 0] 32)) w2) := BA.out.trans (hb.mono BA.out.size)
        clear BA
        have BA := BA'
        clear BA'
        have BC1' : Hid (Below wt1.heap.size wt1 w2) := BC1.out.trans (hb.mono BC1.out.size)
        clear BC1
        have BC1 := BC1'
        clear BC1'
        have HR2 : Hid (Rd w2 (fun b => wt1.heap.size ≤ b ∧ b < w2.heap.size) (dRowSS R0.tables) (.slice ra R0.tables.length rc)) := by first | exact hr2 | (simpa using hr2)
        clear hb hB hr2
        refine hK.out _ _ ?_ (fun hHeld => ?_)
        · (first | exact CE.out _ (HST.out _ BS.out) | exact CE.out _ (HST.out _ BS.out.drew))
        clear hK K
        try simp only [Act.put, tkS]
        refine tkB (i := 5) ?_
        refine tkB (i := 6) ?_
        refine tkB (i := 7) ?_
        refine tkR (i := 9) (fun K hK => ?_)
        have zc0 := cell_at (o := 0) (HZ.out _ BA.out) rfl
        have zf0 := frozen_at 0 (HZ.out _ BA.out)
        have zc1 := cell_at (o := 1) (HZ.out _ BA.out) rfl
        have zf1 := frozen_at 1 (HZ.out _ BA.out)
        go_simp
        clear zc0 zf0 zc1 zf1
        have hlo : ws1.heap.size ≤ wt0.heap.size := LO.out
        have BT : Hid (Below ws1.heap.size ws1 ((w2.setCell ⟨wt0.heap.size, 0, none⟩ (.slice ra R0.tables.length rc)).setCell ⟨wt0.heap.size, 1, none⟩ (.int .i64 R0.next))) := ((BS.out.setCell (by first | exact hlo | (show _ ≤ _; exact hlo)) _).setCell (by first | exact hlo | (show _ ≤ _; exact hlo)) _)
        clear BS hlo
        have BS := BT
        clear BT
        refine hK.out _ _ ?_ (fun hHeld => ?_)
        · (first | exact CE.out _ (HST.out _ BS.out) | exact CE.out _ (HST.out _ BS.out.drew))
        clear hK K
        try simp only [Act.put, tkS]
        refine tkB (i := 10) ?_
        refine wpAnyH_done (by kernel_rfl) ?_ _
        have HF := Lib.hid (HST.out _ BS.out)
        go_wp2_with fail
        go_meet
        refine ⟨ra, rc, _, rfl, rfl, ⟨HF.out.1, HF.out.2.1, HF.out.2.2, heap_set 1 _ (heap_set 0 _ (HZ.out _ BA.out)), (HR2.out.frm (F := (· = wt0.heap.size)) ((frm_set _ _ _ _).trans (frm_set _ _ _ _)) (fun b hb e => by have e' : b = wt0.heap.size := e; have h1 := hb.1; have h2 := LT0.out; omega)).mono (fun b hb => by have := hb.2; simpa using this)⟩, by have h := (Array.getElem?_eq_some_iff.1 HF.out.2.2).1; omega, (Array.getElem?_eq_some_iff.1 (heap_set 1 _ (heap_set 0 _ (HZ.out _ BA.out)))).1⟩
    ·
      go_simp
      have LO : Hid (ws1.heap.size ≤ ws1.heap.size) := BS.out.size
      have BS' : Hid (Below ws1.heap.size ws1 (ws1.alloc (.cells #[.slice none 0 0, .int .i64 0] 32))) := BS.out.alloc BS.out.size _
      clear BS
      have BS := BS'
      clear BS'
      have HZ : Hid (∀ W, Below (ws1.alloc (.cells #[.slice none 0 0, .int .i64 0] 32)).heap.size (ws1.alloc (.cells #[.slice none 0 0, .int .i64 0] 32)) W → W.heap[ws1.heap.size]? = some (.cells #[.slice none 0 0, .int .i64 0] 32)) := fun W h => heap_keptD (heap_newD _ _) h
      have BA : Hid (Below (ws1.alloc (.cells #[.slice none 0 0, .int .i64 0] 32)).heap.size (ws1.alloc (.cells #[.slice none 0 0, .int .i64 0] 32)) (ws1.alloc (.cells #[.slice none 0 0, .int .i64 0] 32))) := Below.refl _ _
      refine hK.out _ _ ?_ (fun hHeld => ?_)
      · (first | exact CE.out _ (HST.out _ BS.out) | exact CE.out _ (HST.out _ BS.out.drew))
      clear hK K
      try simp only [Act.put, tkS]
      refine tkR (i := 1) (fun K hK => ?_)
      go_simp
      go_at_call 7
      refine (TO0.out _ (by first | exact HSX.out _ (HST.out _ BS.out) | exact HSX.out _ (HST.out _ BS.out.drew))).mono ?_
      rintro e wt0 ⟨p0_0, rfl, ho, hB, -⟩
      have hb : Below (ws1.alloc (.cells #[.slice none 0 0, .int .i64 0] 32)).heap.size (ws1.alloc (.cells #[.slice none 0 0, .int .i64 0] 32)) wt0 := by first | exact hB | exact (Below.refl _ _).drew.trans hB
      have BS' : Hid (Below ws1.heap.size ws1 wt0) := BS.out.trans (hb.mono BS.out.size)
      clear BS
      have BS := BS'
      clear BS'
      have BA' : Hid (Below (ws1.alloc (.cells #[.slice none 0 0, .int .i64 0] 32)).heap.size (ws1.alloc (.cells #[.slice none 0 0, .int .i64 0] 32)) wt0) := BA.out.trans (hb.mono BA.out.size)
      clear BA
      have BA := BA'
      clear BA'
      have RC0_0 : Hid (∀ W, Below wt0.heap.size wt0 W → Rd W (fun _ => True) (dTableS x0.tables) (.slice (some ⟨p0_0, 0, none⟩) x0.tables.length x0.tables.length)) := fun W h => Rd.later ((Owns.one ho (j := 0) (by omega)).rd'.any) h
      have BC0 : Hid (Below wt0.heap.size wt0 wt0) := Below.refl _ _
      clear hb hB ho
      refine hK.out _ _ ?_ (fun hHeld => ?_)
      · (first | exact CE.out _ (HST.out _ BS.out) | exact CE.out _ (HST.out _ BS.out.drew))
      clear hK K
      try simp only [Act.put, tkS]
      refine tkR (i := 3) (fun K hK => ?_)
      go_simp
      go_at_call 8
      refine (TO1.out _ (by first | exact HSX.out _ (HST.out _ BS.out) | exact HSX.out _ (HST.out _ BS.out.drew))).mono ?_
      rintro e wt1 ⟨p1_0, rfl, ho, hB, -⟩
      have hb : Below wt0.heap.size wt0 wt1 := by first | exact hB | exact (Below.refl _ _).drew.trans hB
      have BS' : Hid (Below ws1.heap.size ws1 wt1) := BS.out.trans (hb.mono BS.out.size)
      clear BS
      have BS := BS'
      clear BS'
      have BA' : Hid (Below (ws1.alloc (.cells #[.slice none 0 0, .int .i64 0] 32)).heap.size (ws1.alloc (.cells #[.slice none 0 0, .int .i64 0] 32)) wt1) := BA.out.trans (hb.mono BA.out.size)
      clear BA
      have BA := BA'
      clear BA'
      have BC0' : Hid (Below wt0.heap.size wt0 wt1) := BC0.out.trans (hb.mono BC0.out.size)
      clear BC0
      have BC0 := BC0'
      clear BC0'
      have RC1_0 : Hid (∀ W, Below wt1.heap.size wt1 W → Rd W (fun _ => True) (dRowSS x1.tables) (.slice (some ⟨p1_0, 0, none⟩) x1.tables.length x1.tables.length)) := fun W h => Rd.later ((Owns.one ho (j := 0) (by omega)).rd'.any) h
      have BC1 : Hid (Below wt1.heap.size wt1 wt1) := Below.refl _ _
      clear hb hB ho
      refine hK.out _ _ ?_ (fun hHeld => ?_)
      · (first | exact CE.out _ (HST.out _ BS.out) | exact CE.out _ (HST.out _ BS.out.drew))
      clear hK K
      try simp only [Act.put, tkS]
      refine tkR (i := 4) (fun K hK => ?_)
      go_simp
      have LT0 : Hid (ws1.heap.size < wt1.heap.size) := (Array.getElem?_eq_some_iff.1 (HZ.out _ BA.out)).1
      go_at_call 6
      refine (CS.out _ _ _ _ _ (by first | exact RC0_0.out _ BC0.out | exact RC0_0.out _ BC0.out.drew) (by first | exact RC1_0.out _ BC1.out | exact RC1_0.out _ BC1.out.drew)).mono ?_
      rintro e w2 ⟨ra, rc, rfl, hr2, hB⟩
      have hb : Below wt1.heap.size wt1 w2 := by first | exact hB | exact (Below.refl _ _).drew.trans hB
      have BS' : Hid (Below ws1.heap.size ws1 w2) := BS.out.trans (hb.mono BS.out.size)
      clear BS
      have BS := BS'
      clear BS'
      have BA' : Hid (Below (ws1.alloc (.cells #[.slice none 0 0, .int .i64 0] 32)).heap.size (ws1.alloc (.cells #[.slice none 0 0, .int .i64 0] 32)) w2) := BA.out.trans (hb.mono BA.out.size)
      clear BA
      have BA := BA'
      clear BA'
      have BC0' : Hid (Below wt0.heap.size wt0 w2) := BC0.out.trans (hb.mono BC0.out.size)
      clear BC0
      have BC0 := BC0'
      clear BC0'
      have BC1' : Hid (Below wt1.heap.size wt1 w2) := BC1.out.trans (hb.mono BC1.out.size)
      clear BC1
      have BC1 := BC1'
      clear BC1'
      have HR2 : Hid (Rd w2 (fun b => wt1.heap.size ≤ b ∧ b < w2.heap.size) (dRowSS R0.tables) (.slice ra R0.tables.length rc)) := by first | exact hr2 | (simpa using hr2)
      clear hb hB hr2
      refine hK.out _ _ ?_ (fun hHeld => ?_)
      · (first | exact CE.out _ (HST.out _ BS.out) | exact CE.out _ (HST.out _ BS.out.drew))
      clear hK K
      try simp only [Act.put, tkS]
      refine tkB (i := 5) ?_
      refine tkB (i := 6) ?_
      refine tkB (i := 7) ?_
      refine tkR (i := 9) (fun K hK => ?_)
      have zc0 := cell_at (o := 0) (HZ.out _ BA.out) rfl
      have zf0 := frozen_at 0 (HZ.out _ BA.out)
      have zc1 := cell_at (o := 1) (HZ.out _ BA.out) rfl
      have zf1 := frozen_at 1 (HZ.out _ BA.out)
      go_simp
      clear zc0 zf0 zc1 zf1
      have hlo : ws1.heap.size ≤ ws1.heap.size := LO.out
      have BT : Hid (Below ws1.heap.size ws1 ((w2.setCell ⟨ws1.heap.size, 0, none⟩ (.slice ra R0.tables.length rc)).setCell ⟨ws1.heap.size, 1, none⟩ (.int .i64 R0.next))) := ((BS.out.setCell (by first | exact hlo | (show _ ≤ _; exact hlo)) _).setCell (by first | exact hlo | (show _ ≤ _; exact hlo)) _)
      clear BS hlo
      have BS := BT
      clear BT
      refine hK.out _ _ ?_ (fun hHeld => ?_)
      · (first | exact CE.out _ (HST.out _ BS.out) | exact CE.out _ (HST.out _ BS.out.drew))
      clear hK K
      try simp only [Act.put, tkS]
      refine tkB (i := 10) ?_
      refine wpAnyH_done (by kernel_rfl) ?_ _
      have HF := Lib.hid (HST.out _ BS.out)
      go_wp2_with fail
      go_meet
      refine ⟨ra, rc, _, rfl, rfl, ⟨HF.out.1, HF.out.2.1, HF.out.2.2, heap_set 1 _ (heap_set 0 _ (HZ.out _ BA.out)), (HR2.out.frm (F := (· = ws1.heap.size)) ((frm_set _ _ _ _).trans (frm_set _ _ _ _)) (fun b hb e => by have e' : b = ws1.heap.size := e; have h1 := hb.1; have h2 := LT0.out; omega)).mono (fun b hb => by have := hb.2; simpa using this)⟩, by have h := (Array.getElem?_eq_some_iff.1 HF.out.2.2).1; omega, (Array.getElem?_eq_some_iff.1 (heap_set 1 _ (heap_set 0 _ (HZ.out _ BA.out)))).1⟩
  clear HST CE HSX
  obtain ⟨ra, rc, b0, rfl, rfl, HCUT⟩ := hcut
  have M0 : Hid (Below w.heap.size w wc ∧ wc.heap[w.heap.size]? = some (.cells #[.slice a0_0 x0.tables.length c0_0] 24) ∧ wc.heap[w.heap.size + 1]? = some (.cells #[.slice a1_0 x1.tables.length c1_0, .int .i64 x1.next] 27) ∧ wc.heap[b0]? = some (.cells #[.slice ra R0.tables.length rc, .int .i64 R0.next] 32) ∧ Rd wc (· < wc.heap.size) (dRowSS R0.tables) (.slice ra R0.tables.length rc)) := HCUT.out.1
  have O0 : Hid (w.heap.size + 2 ≤ wc.heap.size ∧ b0 < wc.heap.size) := HCUT.out.2
  clear HCUT
  have S0L : Hid (∀ W W', (Below w.heap.size w W ∧ W.heap[w.heap.size]? = some (.cells #[.slice a0_0 x0.tables.length c0_0] 24) ∧ W.heap[w.heap.size + 1]? = some (.cells #[.slice a1_0 x1.tables.length c1_0, .int .i64 x1.next] 27) ∧ W.heap[b0]? = some (.cells #[.slice ra R0.tables.length rc, .int .i64 R0.next] 32) ∧ Rd W (· < wc.heap.size) (dRowSS R0.tables) (.slice ra R0.tables.length rc)) → Below W.heap.size W W' → (Below w.heap.size w W' ∧ W'.heap[w.heap.size]? = some (.cells #[.slice a0_0 x0.tables.length c0_0] 24) ∧ W'.heap[w.heap.size + 1]? = some (.cells #[.slice a1_0 x1.tables.length c1_0, .int .i64 x1.next] 27) ∧ W'.heap[b0]? = some (.cells #[.slice ra R0.tables.length rc, .int .i64 R0.next] 32) ∧ Rd W' (· < wc.heap.size) (dRowSS R0.tables) (.slice ra R0.tables.length rc))) := fun W W' h hB => ⟨h.1.trans (hB.mono h.1.size), heap_keptD h.2.1 hB, heap_keptD h.2.2.1 hB, heap_keptD h.2.2.2.1 hB, h.2.2.2.2.later hB⟩
  have f_arg0_0 := cell_at (o := 0) M0.out.2.1 rfl
  have f_arg1_0 := cell_at (o := 0) M0.out.2.2.1 rfl
  have f_arg1_1 := cell_at (o := 1) M0.out.2.2.1 rfl
  have f_w0_0 := cell_at (o := 0) M0.out.2.2.2.1 rfl
  have f_w0_1 := cell_at (o := 1) M0.out.2.2.2.1 rfl
  go_wp2_with fail
  refine (TO0.out _ ⟨M0.out.1, M0.out.2.1, M0.out.2.2.1⟩).mono ?_
  rintro e wx0 ⟨p0_0, rfl, ho, hB, -⟩
  have hm := S0L.out _ _ M0.out hB
  obtain ⟨u0, hu0⟩ : ∃ u, u = wc.heap.size := ⟨_, rfl⟩
  have U0 : Hid (wc.heap.size ≤ u0 ∧ u0 ≤ wx0.heap.size) := by refine ⟨by first | omega | (rw [hu0]), by rw [hu0]; exact hB.size⟩
  rw [← hu0] at ho
  have S1L : Hid (∀ W W', (Below w.heap.size w W ∧ W.heap[w.heap.size]? = some (.cells #[.slice a0_0 x0.tables.length c0_0] 24) ∧ W.heap[w.heap.size + 1]? = some (.cells #[.slice a1_0 x1.tables.length c1_0, .int .i64 x1.next] 27) ∧ W.heap[b0]? = some (.cells #[.slice ra R0.tables.length rc, .int .i64 R0.next] 32) ∧ Rd W (· < wc.heap.size) (dRowSS R0.tables) (.slice ra R0.tables.length rc) ∧ W.heap[wx0.heap.size]? = some (.cells #[.slice (some ⟨p0_0, 0, none⟩) x0.tables.length x0.tables.length] 37) ∧ Own W (dTableS x0.tables) (fun c => u0 ≤ c ∧ c < wx0.heap.size) (.slice (some ⟨p0_0, 0, none⟩) x0.tables.length x0.tables.length)) → Below W.heap.size W W' → (Below w.heap.size w W' ∧ W'.heap[w.heap.size]? = some (.cells #[.slice a0_0 x0.tables.length c0_0] 24) ∧ W'.heap[w.heap.size + 1]? = some (.cells #[.slice a1_0 x1.tables.length c1_0, .int .i64 x1.next] 27) ∧ W'.heap[b0]? = some (.cells #[.slice ra R0.tables.length rc, .int .i64 R0.next] 32) ∧ Rd W' (· < wc.heap.size) (dRowSS R0.tables) (.slice ra R0.tables.length rc) ∧ W'.heap[wx0.heap.size]? = some (.cells #[.slice (some ⟨p0_0, 0, none⟩) x0.tables.length x0.tables.length] 37) ∧ Own W' (dTableS x0.tables) (fun c => u0 ≤ c ∧ c < wx0.heap.size) (.slice (some ⟨p0_0, 0, none⟩) x0.tables.length x0.tables.length))) := fun W W' h hB => ⟨h.1.trans (hB.mono h.1.size), heap_keptD h.2.1 hB, heap_keptD h.2.2.1 hB, heap_keptD h.2.2.2.1 hB, h.2.2.2.2.1.later hB, heap_keptD h.2.2.2.2.2.1 hB, h.2.2.2.2.2.2.later hB⟩
  have M1 : Hid (Below w.heap.size w (wx0.alloc (.cells #[.slice (some ⟨p0_0, 0, none⟩) x0.tables.length x0.tables.length] 37)) ∧ (wx0.alloc (.cells #[.slice (some ⟨p0_0, 0, none⟩) x0.tables.length x0.tables.length] 37)).heap[w.heap.size]? = some (.cells #[.slice a0_0 x0.tables.length c0_0] 24) ∧ (wx0.alloc (.cells #[.slice (some ⟨p0_0, 0, none⟩) x0.tables.length x0.tables.length] 37)).heap[w.heap.size + 1]? = some (.cells #[.slice a1_0 x1.tables.length c1_0, .int .i64 x1.next] 27) ∧ (wx0.alloc (.cells #[.slice (some ⟨p0_0, 0, none⟩) x0.tables.length x0.tables.length] 37)).heap[b0]? = some (.cells #[.slice ra R0.tables.length rc, .int .i64 R0.next] 32) ∧ Rd (wx0.alloc (.cells #[.slice (some ⟨p0_0, 0, none⟩) x0.tables.length x0.tables.length] 37)) (· < wc.heap.size) (dRowSS R0.tables) (.slice ra R0.tables.length rc) ∧ (wx0.alloc (.cells #[.slice (some ⟨p0_0, 0, none⟩) x0.tables.length x0.tables.length] 37)).heap[wx0.heap.size]? = some (.cells #[.slice (some ⟨p0_0, 0, none⟩) x0.tables.length x0.tables.length] 37) ∧ Own (wx0.alloc (.cells #[.slice (some ⟨p0_0, 0, none⟩) x0.tables.length x0.tables.length] 37)) (dTableS x0.tables) (fun c => u0 ≤ c ∧ c < wx0.heap.size) (.slice (some ⟨p0_0, 0, none⟩) x0.tables.length x0.tables.length)) := ⟨hm.1.trans ((below_allocD _ _).mono hm.1.size), heap_keptD hm.2.1 (below_allocD _ _), heap_keptD hm.2.2.1 (below_allocD _ _), heap_keptD hm.2.2.2.1 (below_allocD _ _), hm.2.2.2.2.later (below_allocD _ _), heap_newD _ _, (Owns.one ho (j := 0) (by omega)).later (below_allocD _ _)⟩
  clear f_arg0_0 f_arg1_0 f_arg1_1 f_w0_0 f_w0_1
  clear hm hB ho hu0 M0
  have f_arg0_0 := cell_at (o := 0) M1.out.2.1 rfl
  have f_arg1_0 := cell_at (o := 0) M1.out.2.2.1 rfl
  have f_arg1_1 := cell_at (o := 1) M1.out.2.2.1 rfl
  have f_w0_0 := cell_at (o := 0) M1.out.2.2.2.1 rfl
  have f_w0_1 := cell_at (o := 1) M1.out.2.2.2.1 rfl
  have f_x0_0 := cell_at (o := 0) M1.out.2.2.2.2.2.1 rfl
  go_wp2_with fail
  refine (TO1.out _ ⟨M1.out.1, M1.out.2.1, M1.out.2.2.1⟩).mono ?_
  rintro e wx1 ⟨p1_0, rfl, ho, hB, -⟩
  have hm := S1L.out _ _ M1.out hB
  obtain ⟨u1, hu1⟩ : ∃ u, u = (wx0.alloc (.cells #[.slice (some ⟨p0_0, 0, none⟩) x0.tables.length x0.tables.length] 37)).heap.size := ⟨_, rfl⟩
  have U1 : Hid (wx0.heap.size + 1 ≤ u1 ∧ u1 ≤ wx1.heap.size) := by refine ⟨by first | omega | (rw [hu1]; simp), by rw [hu1]; exact hB.size⟩
  rw [← hu1] at ho
  have S2L : Hid (∀ W W', (Below w.heap.size w W ∧ W.heap[w.heap.size]? = some (.cells #[.slice a0_0 x0.tables.length c0_0] 24) ∧ W.heap[w.heap.size + 1]? = some (.cells #[.slice a1_0 x1.tables.length c1_0, .int .i64 x1.next] 27) ∧ W.heap[b0]? = some (.cells #[.slice ra R0.tables.length rc, .int .i64 R0.next] 32) ∧ Rd W (· < wc.heap.size) (dRowSS R0.tables) (.slice ra R0.tables.length rc) ∧ W.heap[wx0.heap.size]? = some (.cells #[.slice (some ⟨p0_0, 0, none⟩) x0.tables.length x0.tables.length] 37) ∧ Own W (dTableS x0.tables) (fun c => u0 ≤ c ∧ c < wx0.heap.size) (.slice (some ⟨p0_0, 0, none⟩) x0.tables.length x0.tables.length) ∧ W.heap[wx1.heap.size]? = some (.cells #[.slice (some ⟨p1_0, 0, none⟩) x1.tables.length x1.tables.length, .int .i64 x1.next] 32) ∧ Own W (dRowSS x1.tables) (fun c => u1 ≤ c ∧ c < wx1.heap.size) (.slice (some ⟨p1_0, 0, none⟩) x1.tables.length x1.tables.length)) → Below W.heap.size W W' → (Below w.heap.size w W' ∧ W'.heap[w.heap.size]? = some (.cells #[.slice a0_0 x0.tables.length c0_0] 24) ∧ W'.heap[w.heap.size + 1]? = some (.cells #[.slice a1_0 x1.tables.length c1_0, .int .i64 x1.next] 27) ∧ W'.heap[b0]? = some (.cells #[.slice ra R0.tables.length rc, .int .i64 R0.next] 32) ∧ Rd W' (· < wc.heap.size) (dRowSS R0.tables) (.slice ra R0.tables.length rc) ∧ W'.heap[wx0.heap.size]? = some (.cells #[.slice (some ⟨p0_0, 0, none⟩) x0.tables.length x0.tables.length] 37) ∧ Own W' (dTableS x0.tables) (fun c => u0 ≤ c ∧ c < wx0.heap.size) (.slice (some ⟨p0_0, 0, none⟩) x0.tables.length x0.tables.length) ∧ W'.heap[wx1.heap.size]? = some (.cells #[.slice (some ⟨p1_0, 0, none⟩) x1.tables.length x1.tables.length, .int .i64 x1.next] 32) ∧ Own W' (dRowSS x1.tables) (fun c => u1 ≤ c ∧ c < wx1.heap.size) (.slice (some ⟨p1_0, 0, none⟩) x1.tables.length x1.tables.length))) := fun W W' h hB => ⟨h.1.trans (hB.mono h.1.size), heap_keptD h.2.1 hB, heap_keptD h.2.2.1 hB, heap_keptD h.2.2.2.1 hB, h.2.2.2.2.1.later hB, heap_keptD h.2.2.2.2.2.1 hB, h.2.2.2.2.2.2.1.later hB, heap_keptD h.2.2.2.2.2.2.2.1 hB, h.2.2.2.2.2.2.2.2.later hB⟩
  have M2 : Hid (Below w.heap.size w (wx1.alloc (.cells #[.slice (some ⟨p1_0, 0, none⟩) x1.tables.length x1.tables.length, .int .i64 x1.next] 32)) ∧ (wx1.alloc (.cells #[.slice (some ⟨p1_0, 0, none⟩) x1.tables.length x1.tables.length, .int .i64 x1.next] 32)).heap[w.heap.size]? = some (.cells #[.slice a0_0 x0.tables.length c0_0] 24) ∧ (wx1.alloc (.cells #[.slice (some ⟨p1_0, 0, none⟩) x1.tables.length x1.tables.length, .int .i64 x1.next] 32)).heap[w.heap.size + 1]? = some (.cells #[.slice a1_0 x1.tables.length c1_0, .int .i64 x1.next] 27) ∧ (wx1.alloc (.cells #[.slice (some ⟨p1_0, 0, none⟩) x1.tables.length x1.tables.length, .int .i64 x1.next] 32)).heap[b0]? = some (.cells #[.slice ra R0.tables.length rc, .int .i64 R0.next] 32) ∧ Rd (wx1.alloc (.cells #[.slice (some ⟨p1_0, 0, none⟩) x1.tables.length x1.tables.length, .int .i64 x1.next] 32)) (· < wc.heap.size) (dRowSS R0.tables) (.slice ra R0.tables.length rc) ∧ (wx1.alloc (.cells #[.slice (some ⟨p1_0, 0, none⟩) x1.tables.length x1.tables.length, .int .i64 x1.next] 32)).heap[wx0.heap.size]? = some (.cells #[.slice (some ⟨p0_0, 0, none⟩) x0.tables.length x0.tables.length] 37) ∧ Own (wx1.alloc (.cells #[.slice (some ⟨p1_0, 0, none⟩) x1.tables.length x1.tables.length, .int .i64 x1.next] 32)) (dTableS x0.tables) (fun c => u0 ≤ c ∧ c < wx0.heap.size) (.slice (some ⟨p0_0, 0, none⟩) x0.tables.length x0.tables.length) ∧ (wx1.alloc (.cells #[.slice (some ⟨p1_0, 0, none⟩) x1.tables.length x1.tables.length, .int .i64 x1.next] 32)).heap[wx1.heap.size]? = some (.cells #[.slice (some ⟨p1_0, 0, none⟩) x1.tables.length x1.tables.length, .int .i64 x1.next] 32) ∧ Own (wx1.alloc (.cells #[.slice (some ⟨p1_0, 0, none⟩) x1.tables.length x1.tables.length, .int .i64 x1.next] 32)) (dRowSS x1.tables) (fun c => u1 ≤ c ∧ c < wx1.heap.size) (.slice (some ⟨p1_0, 0, none⟩) x1.tables.length x1.tables.length)) := ⟨hm.1.trans ((below_allocD _ _).mono hm.1.size), heap_keptD hm.2.1 (below_allocD _ _), heap_keptD hm.2.2.1 (below_allocD _ _), heap_keptD hm.2.2.2.1 (below_allocD _ _), hm.2.2.2.2.1.later (below_allocD _ _), heap_keptD hm.2.2.2.2.2.1 (below_allocD _ _), hm.2.2.2.2.2.2.later (below_allocD _ _), heap_newD _ _, (Owns.one ho (j := 0) (by omega)).later (below_allocD _ _)⟩
  clear f_arg0_0 f_arg1_0 f_arg1_1 f_w0_0 f_w0_1 f_x0_0
  clear hm hB ho hu1 M1
  have f_arg0_0 := cell_at (o := 0) M2.out.2.1 rfl
  have f_arg1_0 := cell_at (o := 0) M2.out.2.2.1 rfl
  have f_arg1_1 := cell_at (o := 1) M2.out.2.2.1 rfl
  have f_w0_0 := cell_at (o := 0) M2.out.2.2.2.1 rfl
  have f_w0_1 := cell_at (o := 1) M2.out.2.2.2.1 rfl
  have f_x0_0 := cell_at (o := 0) M2.out.2.2.2.2.2.1 rfl
  have f_x1_0 := cell_at (o := 0) M2.out.2.2.2.2.2.2.2.1 rfl
  have f_x1_1 := cell_at (o := 1) M2.out.2.2.2.2.2.2.2.1 rfl
  go_wp2_with fail
  refine (CI.out _ _ _ _ _ (Rd.any (Own.rd' (M2.out.2.2.2.2.2.2.1))) (Rd.any (Own.rd' (M2.out.2.2.2.2.2.2.2.2)))).mono ?_
  rintro e wg ⟨ga, gc, rfl, ho, hB⟩
  have hm := S2L.out _ _ M2.out hB
  obtain ⟨ug, hug⟩ : ∃ u, u = (wx1.alloc (.cells #[.slice (some ⟨p1_0, 0, none⟩) x1.tables.length x1.tables.length, .int .i64 x1.next] 32)).heap.size := ⟨_, rfl⟩
  have UG : Hid (wx1.heap.size + 1 ≤ ug ∧ ug ≤ wg.heap.size) := by refine ⟨by first | omega | (rw [hug]; simp), by rw [hug]; exact hB.size⟩
  rw [← hug] at ho
  have SGL : Hid (∀ W W', (Below w.heap.size w W ∧ W.heap[w.heap.size]? = some (.cells #[.slice a0_0 x0.tables.length c0_0] 24) ∧ W.heap[w.heap.size + 1]? = some (.cells #[.slice a1_0 x1.tables.length c1_0, .int .i64 x1.next] 27) ∧ W.heap[b0]? = some (.cells #[.slice ra R0.tables.length rc, .int .i64 R0.next] 32) ∧ Rd W (· < wc.heap.size) (dRowSS R0.tables) (.slice ra R0.tables.length rc) ∧ W.heap[wx0.heap.size]? = some (.cells #[.slice (some ⟨p0_0, 0, none⟩) x0.tables.length x0.tables.length] 37) ∧ Own W (dTableS x0.tables) (fun c => u0 ≤ c ∧ c < wx0.heap.size) (.slice (some ⟨p0_0, 0, none⟩) x0.tables.length x0.tables.length) ∧ W.heap[wx1.heap.size]? = some (.cells #[.slice (some ⟨p1_0, 0, none⟩) x1.tables.length x1.tables.length, .int .i64 x1.next] 32) ∧ Own W (dRowSS x1.tables) (fun c => u1 ≤ c ∧ c < wx1.heap.size) (.slice (some ⟨p1_0, 0, none⟩) x1.tables.length x1.tables.length) ∧ W.heap[wg.heap.size]? = some (.cells #[.slice ga R0.tables.length gc, .int .i64 R0.next] 32) ∧ Own W (dRowSS R0.tables) (fun c => ug ≤ c ∧ c < wg.heap.size) (.slice ga R0.tables.length gc)) → Below W.heap.size W W' → (Below w.heap.size w W' ∧ W'.heap[w.heap.size]? = some (.cells #[.slice a0_0 x0.tables.length c0_0] 24) ∧ W'.heap[w.heap.size + 1]? = some (.cells #[.slice a1_0 x1.tables.length c1_0, .int .i64 x1.next] 27) ∧ W'.heap[b0]? = some (.cells #[.slice ra R0.tables.length rc, .int .i64 R0.next] 32) ∧ Rd W' (· < wc.heap.size) (dRowSS R0.tables) (.slice ra R0.tables.length rc) ∧ W'.heap[wx0.heap.size]? = some (.cells #[.slice (some ⟨p0_0, 0, none⟩) x0.tables.length x0.tables.length] 37) ∧ Own W' (dTableS x0.tables) (fun c => u0 ≤ c ∧ c < wx0.heap.size) (.slice (some ⟨p0_0, 0, none⟩) x0.tables.length x0.tables.length) ∧ W'.heap[wx1.heap.size]? = some (.cells #[.slice (some ⟨p1_0, 0, none⟩) x1.tables.length x1.tables.length, .int .i64 x1.next] 32) ∧ Own W' (dRowSS x1.tables) (fun c => u1 ≤ c ∧ c < wx1.heap.size) (.slice (some ⟨p1_0, 0, none⟩) x1.tables.length x1.tables.length) ∧ W'.heap[wg.heap.size]? = some (.cells #[.slice ga R0.tables.length gc, .int .i64 R0.next] 32) ∧ Own W' (dRowSS R0.tables) (fun c => ug ≤ c ∧ c < wg.heap.size) (.slice ga R0.tables.length gc))) := fun W W' h hB => ⟨h.1.trans (hB.mono h.1.size), heap_keptD h.2.1 hB, heap_keptD h.2.2.1 hB, heap_keptD h.2.2.2.1 hB, h.2.2.2.2.1.later hB, heap_keptD h.2.2.2.2.2.1 hB, h.2.2.2.2.2.2.1.later hB, heap_keptD h.2.2.2.2.2.2.2.1 hB, h.2.2.2.2.2.2.2.2.1.later hB, heap_keptD h.2.2.2.2.2.2.2.2.2.1 hB, h.2.2.2.2.2.2.2.2.2.2.later hB⟩
  have MG : Hid (Below w.heap.size w (wg.alloc (.cells #[.slice ga R0.tables.length gc, .int .i64 R0.next] 32)) ∧ (wg.alloc (.cells #[.slice ga R0.tables.length gc, .int .i64 R0.next] 32)).heap[w.heap.size]? = some (.cells #[.slice a0_0 x0.tables.length c0_0] 24) ∧ (wg.alloc (.cells #[.slice ga R0.tables.length gc, .int .i64 R0.next] 32)).heap[w.heap.size + 1]? = some (.cells #[.slice a1_0 x1.tables.length c1_0, .int .i64 x1.next] 27) ∧ (wg.alloc (.cells #[.slice ga R0.tables.length gc, .int .i64 R0.next] 32)).heap[b0]? = some (.cells #[.slice ra R0.tables.length rc, .int .i64 R0.next] 32) ∧ Rd (wg.alloc (.cells #[.slice ga R0.tables.length gc, .int .i64 R0.next] 32)) (· < wc.heap.size) (dRowSS R0.tables) (.slice ra R0.tables.length rc) ∧ (wg.alloc (.cells #[.slice ga R0.tables.length gc, .int .i64 R0.next] 32)).heap[wx0.heap.size]? = some (.cells #[.slice (some ⟨p0_0, 0, none⟩) x0.tables.length x0.tables.length] 37) ∧ Own (wg.alloc (.cells #[.slice ga R0.tables.length gc, .int .i64 R0.next] 32)) (dTableS x0.tables) (fun c => u0 ≤ c ∧ c < wx0.heap.size) (.slice (some ⟨p0_0, 0, none⟩) x0.tables.length x0.tables.length) ∧ (wg.alloc (.cells #[.slice ga R0.tables.length gc, .int .i64 R0.next] 32)).heap[wx1.heap.size]? = some (.cells #[.slice (some ⟨p1_0, 0, none⟩) x1.tables.length x1.tables.length, .int .i64 x1.next] 32) ∧ Own (wg.alloc (.cells #[.slice ga R0.tables.length gc, .int .i64 R0.next] 32)) (dRowSS x1.tables) (fun c => u1 ≤ c ∧ c < wx1.heap.size) (.slice (some ⟨p1_0, 0, none⟩) x1.tables.length x1.tables.length) ∧ (wg.alloc (.cells #[.slice ga R0.tables.length gc, .int .i64 R0.next] 32)).heap[wg.heap.size]? = some (.cells #[.slice ga R0.tables.length gc, .int .i64 R0.next] 32) ∧ Own (wg.alloc (.cells #[.slice ga R0.tables.length gc, .int .i64 R0.next] 32)) (dRowSS R0.tables) (fun c => ug ≤ c ∧ c < wg.heap.size) (.slice ga R0.tables.length gc)) := ⟨hm.1.trans ((below_allocD _ _).mono hm.1.size), heap_keptD hm.2.1 (below_allocD _ _), heap_keptD hm.2.2.1 (below_allocD _ _), heap_keptD hm.2.2.2.1 (below_allocD _ _), hm.2.2.2.2.1.later (below_allocD _ _), heap_keptD hm.2.2.2.2.2.1 (below_allocD _ _), hm.2.2.2.2.2.2.1.later (below_allocD _ _), heap_keptD hm.2.2.2.2.2.2.2.1 (below_allocD _ _), hm.2.2.2.2.2.2.2.2.later (below_allocD _ _), heap_newD _ _, ho.later (below_allocD _ _)⟩
  clear f_arg0_0 f_arg1_0 f_arg1_1 f_w0_0 f_w0_1 f_x0_0 f_x1_0 f_x1_1
  clear hm hB ho hug M2
  have ORD := Lib.hid (And.intro (O0.out) (And.intro (U0.out) (And.intro (U1.out) (UG.out))))
  have f_arg0_0 := cell_at (o := 0) MG.out.2.1 rfl
  have f_arg1_0 := cell_at (o := 0) MG.out.2.2.1 rfl
  have f_arg1_1 := cell_at (o := 1) MG.out.2.2.1 rfl
  have f_w0_0 := cell_at (o := 0) MG.out.2.2.2.1 rfl
  have f_w0_1 := cell_at (o := 1) MG.out.2.2.2.1 rfl
  have f_x0_0 := cell_at (o := 0) MG.out.2.2.2.2.2.1 rfl
  have f_x1_0 := cell_at (o := 0) MG.out.2.2.2.2.2.2.2.1 rfl
  have f_x1_1 := cell_at (o := 1) MG.out.2.2.2.2.2.2.2.1 rfl
  have f_g_0 := cell_at (o := 0) MG.out.2.2.2.2.2.2.2.2.2.1 rfl
  have f_g_1 := cell_at (o := 1) MG.out.2.2.2.2.2.2.2.2.2.1 rfl
  go_wp2_with fail
  refine (EQR.out _ _ _ _ _ (Rd.any (Own.rd' (MG.out.2.2.2.2.2.2.2.2.2.2))) (Rd.any (MG.out.2.2.2.2.1))).mono ?_
  rintro e wc0 ⟨rfl, hB⟩
  have N1 := Lib.hid (SGL.out _ _ MG.out hB)
  clear f_arg0_0 f_arg1_0 f_arg1_1 f_w0_0 f_w0_1 f_x0_0 f_x1_0 f_x1_1 f_g_0 f_g_1
  clear hB MG
  have f_arg0_0 := cell_at (o := 0) N1.out.2.1 rfl
  have f_arg1_0 := cell_at (o := 0) N1.out.2.2.1 rfl
  have f_arg1_1 := cell_at (o := 1) N1.out.2.2.1 rfl
  have f_w0_0 := cell_at (o := 0) N1.out.2.2.2.1 rfl
  have f_w0_1 := cell_at (o := 1) N1.out.2.2.2.1 rfl
  have f_x0_0 := cell_at (o := 0) N1.out.2.2.2.2.2.1 rfl
  have f_x1_0 := cell_at (o := 0) N1.out.2.2.2.2.2.2.2.1 rfl
  have f_x1_1 := cell_at (o := 1) N1.out.2.2.2.2.2.2.2.1 rfl
  have f_g_0 := cell_at (o := 0) N1.out.2.2.2.2.2.2.2.2.2.1 rfl
  have f_g_1 := cell_at (o := 1) N1.out.2.2.2.2.2.2.2.2.2.1 rfl
  go_wp2_with fail
  have CE0 : Hid (∀ W, (Below w.heap.size w W ∧ W.heap[w.heap.size]? = some (.cells #[.slice a0_0 x0.tables.length c0_0] 24) ∧ W.heap[w.heap.size + 1]? = some (.cells #[.slice a1_0 x1.tables.length c1_0, .int .i64 x1.next] 27) ∧ W.heap[b0]? = some (.cells #[.slice ra R0.tables.length rc, .int .i64 R0.next] 32) ∧ Rd W (· < wc.heap.size) (dRowSS R0.tables) (.slice ra R0.tables.length rc) ∧ W.heap[wx0.heap.size]? = some (.cells #[.slice (some ⟨p0_0, 0, none⟩) x0.tables.length x0.tables.length] 37) ∧ Own W (dTableS x0.tables) (fun c => u0 ≤ c ∧ c < wx0.heap.size) (.slice (some ⟨p0_0, 0, none⟩) x0.tables.length x0.tables.length) ∧ W.heap[wx1.heap.size]? = some (.cells #[.slice (some ⟨p1_0, 0, none⟩) x1.tables.length x1.tables.length, .int .i64 x1.next] 32) ∧ Own W (dRowSS x1.tables) (fun c => u1 ≤ c ∧ c < wx1.heap.size) (.slice (some ⟨p1_0, 0, none⟩) x1.tables.length x1.tables.length) ∧ W.heap[wg.heap.size]? = some (.cells #[.slice ga R0.tables.length gc, .int .i64 R0.next] 32) ∧ Own W (dRowSS R0.tables) (fun c => ug ≤ c ∧ c < wg.heap.size) (.slice ga R0.tables.length gc)) → (W.cell? ⟨w.heap.size, 0, none⟩ = some (.slice a0_0 x0.tables.length c0_0) ∧ W.cell? ⟨wx0.heap.size, 0, none⟩ = some (.slice (some ⟨p0_0, 0, none⟩) x0.tables.length x0.tables.length))) := fun W h => ⟨cell_at (o := 0) h.2.1 rfl, cell_at (o := 0) h.2.2.2.2.2.1 rfl⟩
  have XA0 : Hid (∀ W, (Below w.heap.size w W ∧ W.heap[w.heap.size]? = some (.cells #[.slice a0_0 x0.tables.length c0_0] 24) ∧ W.heap[w.heap.size + 1]? = some (.cells #[.slice a1_0 x1.tables.length c1_0, .int .i64 x1.next] 27) ∧ W.heap[b0]? = some (.cells #[.slice ra R0.tables.length rc, .int .i64 R0.next] 32) ∧ Rd W (· < wc.heap.size) (dRowSS R0.tables) (.slice ra R0.tables.length rc) ∧ W.heap[wx0.heap.size]? = some (.cells #[.slice (some ⟨p0_0, 0, none⟩) x0.tables.length x0.tables.length] 37) ∧ Own W (dTableS x0.tables) (fun c => u0 ≤ c ∧ c < wx0.heap.size) (.slice (some ⟨p0_0, 0, none⟩) x0.tables.length x0.tables.length) ∧ W.heap[wx1.heap.size]? = some (.cells #[.slice (some ⟨p1_0, 0, none⟩) x1.tables.length x1.tables.length, .int .i64 x1.next] 32) ∧ Own W (dRowSS x1.tables) (fun c => u1 ≤ c ∧ c < wx1.heap.size) (.slice (some ⟨p1_0, 0, none⟩) x1.tables.length x1.tables.length) ∧ W.heap[wg.heap.size]? = some (.cells #[.slice ga R0.tables.length gc, .int .i64 R0.next] 32) ∧ Own W (dRowSS R0.tables) (fun c => ug ≤ c ∧ c < wg.heap.size) (.slice ga R0.tables.length gc)) → (Below w.heap.size w W ∧ W.heap[w.heap.size]? = some (.cells #[.slice a0_0 x0.tables.length c0_0] 24) ∧ W.heap[w.heap.size + 1]? = some (.cells #[.slice a1_0 x1.tables.length c1_0, .int .i64 x1.next] 27))) := fun W h => ⟨h.1, h.2.1, h.2.2.1⟩
  have hx := N1.out
  clear N1
  refine wp_region_held_drew (S := (fun W => W.cell? ⟨w.heap.size, 0, none⟩ = some (.slice a0_0 x0.tables.length c0_0) ∧ W.cell? ⟨wx0.heap.size, 0, none⟩ = some (.slice (some ⟨p0_0, 0, none⟩) x0.tables.length x0.tables.length))) (by kernel_rfl) ?_ (fun hHeld => ?_)
  · (first | exact CE0.out _ hx | exact CE0.out _ (SGL.out _ _ hx (Below.refl _ _).drew))
  refine tkB (i := 0) ?_
  refine tkB (i := 1) ?_
  refine tkR (i := 2) (fun K hK => ?_)
  go_simp
  (go_at_call 7; refine (TO0.out _ (by first | exact XA0.out _ hx | exact XA0.out _ (SGL.out _ _ hx (Below.refl _ _).drew))).mono ?_; rintro e we0 ⟨s0_0, rfl, ho, hB, _⟩; have h2 : Below w.heap.size w we0 ∧ we0.heap[w.heap.size]? = some (.cells #[.slice a0_0 x0.tables.length c0_0] 24) ∧ we0.heap[w.heap.size + 1]? = some (.cells #[.slice a1_0 x1.tables.length c1_0, .int .i64 x1.next] 27) ∧ we0.heap[b0]? = some (.cells #[.slice ra R0.tables.length rc, .int .i64 R0.next] 32) ∧ Rd we0 (· < wc.heap.size) (dRowSS R0.tables) (.slice ra R0.tables.length rc) ∧ we0.heap[wx0.heap.size]? = some (.cells #[.slice (some ⟨p0_0, 0, none⟩) x0.tables.length x0.tables.length] 37) ∧ Own we0 (dTableS x0.tables) (fun c => u0 ≤ c ∧ c < wx0.heap.size) (.slice (some ⟨p0_0, 0, none⟩) x0.tables.length x0.tables.length) ∧ we0.heap[wx1.heap.size]? = some (.cells #[.slice (some ⟨p1_0, 0, none⟩) x1.tables.length x1.tables.length, .int .i64 x1.next] 32) ∧ Own we0 (dRowSS x1.tables) (fun c => u1 ≤ c ∧ c < wx1.heap.size) (.slice (some ⟨p1_0, 0, none⟩) x1.tables.length x1.tables.length) ∧ we0.heap[wg.heap.size]? = some (.cells #[.slice ga R0.tables.length gc, .int .i64 R0.next] 32) ∧ Own we0 (dRowSS R0.tables) (fun c => ug ≤ c ∧ c < wg.heap.size) (.slice ga R0.tables.length gc) := (by first | exact SGL.out _ _ hx hB | exact SGL.out _ _ (SGL.out _ _ hx (Below.refl _ _).drew) hB); clear hx; have hx := h2; clear h2; have RE0_0 : Hid (Rd _ (fun _ => True) (dTableS x0.tables) (.slice (some ⟨s0_0, 0, none⟩) x0.tables.length x0.tables.length)) := (Owns.one ho (j := 0) (by omega)).rd'.any; clear hB ho)
  refine hK.out _ _ ?_ (fun hHeld => ?_)
  · (first | exact CE0.out _ hx | exact CE0.out _ (SGL.out _ _ hx (Below.refl _ _).drew))
  clear hK K
  try simp only [Act.put, tkS]
  refine tkR (i := 3) (fun K hK => ?_)
  go_simp
  (go_at_call 11; refine (EQ0.out _ _ _ _ _ (by first | exact Rd.any (Own.rd' (hx.2.2.2.2.2.2.1)) | exact Rd.later (Rd.any (Own.rd' (hx.2.2.2.2.2.2.1))) (Below.refl _ _).drew) (by first | exact RE0_0.out | exact Rd.later RE0_0.out (Below.refl _ _).drew)).mono ?_; rintro e wf0 ⟨rfl, hB⟩; have h2 : Below w.heap.size w wf0 ∧ wf0.heap[w.heap.size]? = some (.cells #[.slice a0_0 x0.tables.length c0_0] 24) ∧ wf0.heap[w.heap.size + 1]? = some (.cells #[.slice a1_0 x1.tables.length c1_0, .int .i64 x1.next] 27) ∧ wf0.heap[b0]? = some (.cells #[.slice ra R0.tables.length rc, .int .i64 R0.next] 32) ∧ Rd wf0 (· < wc.heap.size) (dRowSS R0.tables) (.slice ra R0.tables.length rc) ∧ wf0.heap[wx0.heap.size]? = some (.cells #[.slice (some ⟨p0_0, 0, none⟩) x0.tables.length x0.tables.length] 37) ∧ Own wf0 (dTableS x0.tables) (fun c => u0 ≤ c ∧ c < wx0.heap.size) (.slice (some ⟨p0_0, 0, none⟩) x0.tables.length x0.tables.length) ∧ wf0.heap[wx1.heap.size]? = some (.cells #[.slice (some ⟨p1_0, 0, none⟩) x1.tables.length x1.tables.length, .int .i64 x1.next] 32) ∧ Own wf0 (dRowSS x1.tables) (fun c => u1 ≤ c ∧ c < wx1.heap.size) (.slice (some ⟨p1_0, 0, none⟩) x1.tables.length x1.tables.length) ∧ wf0.heap[wg.heap.size]? = some (.cells #[.slice ga R0.tables.length gc, .int .i64 R0.next] 32) ∧ Own wf0 (dRowSS R0.tables) (fun c => ug ≤ c ∧ c < wg.heap.size) (.slice ga R0.tables.length gc) := (by first | exact SGL.out _ _ hx hB | exact SGL.out _ _ (SGL.out _ _ hx (Below.refl _ _).drew) hB); clear hx hB; have hx := h2; clear h2)
  refine hK.out _ _ ?_ (fun hHeld => ?_)
  · (first | exact CE0.out _ hx | exact CE0.out _ (SGL.out _ _ hx (Below.refl _ _).drew))
  clear hK K
  try simp only [Act.put, tkS]
  refine tkB (i := 4) ?_
  refine wpAnyH_done (by kernel_rfl) ?_ _
  have N2 := Lib.hid hx
  clear f_arg0_0 f_arg1_0 f_arg1_1 f_w0_0 f_w0_1 f_x0_0 f_x1_0 f_x1_1 f_g_0 f_g_1
  clear hx RE0_0
  have f_arg0_0 := cell_at (o := 0) N2.out.2.1 rfl
  have f_arg1_0 := cell_at (o := 0) N2.out.2.2.1 rfl
  have f_arg1_1 := cell_at (o := 1) N2.out.2.2.1 rfl
  have f_w0_0 := cell_at (o := 0) N2.out.2.2.2.1 rfl
  have f_w0_1 := cell_at (o := 1) N2.out.2.2.2.1 rfl
  have f_x0_0 := cell_at (o := 0) N2.out.2.2.2.2.2.1 rfl
  have f_x1_0 := cell_at (o := 0) N2.out.2.2.2.2.2.2.2.1 rfl
  have f_x1_1 := cell_at (o := 1) N2.out.2.2.2.2.2.2.2.1 rfl
  have f_g_0 := cell_at (o := 0) N2.out.2.2.2.2.2.2.2.2.2.1 rfl
  have f_g_1 := cell_at (o := 1) N2.out.2.2.2.2.2.2.2.2.2.1 rfl
  go_wp2_with fail
  have CE1 : Hid (∀ W, (Below w.heap.size w W ∧ W.heap[w.heap.size]? = some (.cells #[.slice a0_0 x0.tables.length c0_0] 24) ∧ W.heap[w.heap.size + 1]? = some (.cells #[.slice a1_0 x1.tables.length c1_0, .int .i64 x1.next] 27) ∧ W.heap[b0]? = some (.cells #[.slice ra R0.tables.length rc, .int .i64 R0.next] 32) ∧ Rd W (· < wc.heap.size) (dRowSS R0.tables) (.slice ra R0.tables.length rc) ∧ W.heap[wx0.heap.size]? = some (.cells #[.slice (some ⟨p0_0, 0, none⟩) x0.tables.length x0.tables.length] 37) ∧ Own W (dTableS x0.tables) (fun c => u0 ≤ c ∧ c < wx0.heap.size) (.slice (some ⟨p0_0, 0, none⟩) x0.tables.length x0.tables.length) ∧ W.heap[wx1.heap.size]? = some (.cells #[.slice (some ⟨p1_0, 0, none⟩) x1.tables.length x1.tables.length, .int .i64 x1.next] 32) ∧ Own W (dRowSS x1.tables) (fun c => u1 ≤ c ∧ c < wx1.heap.size) (.slice (some ⟨p1_0, 0, none⟩) x1.tables.length x1.tables.length) ∧ W.heap[wg.heap.size]? = some (.cells #[.slice ga R0.tables.length gc, .int .i64 R0.next] 32) ∧ Own W (dRowSS R0.tables) (fun c => ug ≤ c ∧ c < wg.heap.size) (.slice ga R0.tables.length gc)) → (W.cell? ⟨w.heap.size + 1, 0, none⟩ = some (.slice a1_0 x1.tables.length c1_0) ∧ W.cell? ⟨w.heap.size + 1, 1, none⟩ = some (.int .i64 x1.next) ∧ W.cell? ⟨wx1.heap.size, 0, none⟩ = some (.slice (some ⟨p1_0, 0, none⟩) x1.tables.length x1.tables.length) ∧ W.cell? ⟨wx1.heap.size, 1, none⟩ = some (.int .i64 x1.next))) := fun W h => ⟨cell_at (o := 0) h.2.2.1 rfl, cell_at (o := 1) h.2.2.1 rfl, cell_at (o := 0) h.2.2.2.2.2.2.2.1 rfl, cell_at (o := 1) h.2.2.2.2.2.2.2.1 rfl⟩
  have XA1 : Hid (∀ W, (Below w.heap.size w W ∧ W.heap[w.heap.size]? = some (.cells #[.slice a0_0 x0.tables.length c0_0] 24) ∧ W.heap[w.heap.size + 1]? = some (.cells #[.slice a1_0 x1.tables.length c1_0, .int .i64 x1.next] 27) ∧ W.heap[b0]? = some (.cells #[.slice ra R0.tables.length rc, .int .i64 R0.next] 32) ∧ Rd W (· < wc.heap.size) (dRowSS R0.tables) (.slice ra R0.tables.length rc) ∧ W.heap[wx0.heap.size]? = some (.cells #[.slice (some ⟨p0_0, 0, none⟩) x0.tables.length x0.tables.length] 37) ∧ Own W (dTableS x0.tables) (fun c => u0 ≤ c ∧ c < wx0.heap.size) (.slice (some ⟨p0_0, 0, none⟩) x0.tables.length x0.tables.length) ∧ W.heap[wx1.heap.size]? = some (.cells #[.slice (some ⟨p1_0, 0, none⟩) x1.tables.length x1.tables.length, .int .i64 x1.next] 32) ∧ Own W (dRowSS x1.tables) (fun c => u1 ≤ c ∧ c < wx1.heap.size) (.slice (some ⟨p1_0, 0, none⟩) x1.tables.length x1.tables.length) ∧ W.heap[wg.heap.size]? = some (.cells #[.slice ga R0.tables.length gc, .int .i64 R0.next] 32) ∧ Own W (dRowSS R0.tables) (fun c => ug ≤ c ∧ c < wg.heap.size) (.slice ga R0.tables.length gc)) → (Below w.heap.size w W ∧ W.heap[w.heap.size]? = some (.cells #[.slice a0_0 x0.tables.length c0_0] 24) ∧ W.heap[w.heap.size + 1]? = some (.cells #[.slice a1_0 x1.tables.length c1_0, .int .i64 x1.next] 27))) := fun W h => ⟨h.1, h.2.1, h.2.2.1⟩
  have hx := N2.out
  clear N2
  refine wp_region_held_drew (S := (fun W => W.cell? ⟨w.heap.size + 1, 0, none⟩ = some (.slice a1_0 x1.tables.length c1_0) ∧ W.cell? ⟨w.heap.size + 1, 1, none⟩ = some (.int .i64 x1.next) ∧ W.cell? ⟨wx1.heap.size, 0, none⟩ = some (.slice (some ⟨p1_0, 0, none⟩) x1.tables.length x1.tables.length) ∧ W.cell? ⟨wx1.heap.size, 1, none⟩ = some (.int .i64 x1.next))) (by kernel_rfl) ?_ (fun hHeld => ?_)
  · (first | exact CE1.out _ hx | exact CE1.out _ (SGL.out _ _ hx (Below.refl _ _).drew))
  refine tkB (i := 0) ?_
  refine tkB (i := 1) ?_
  refine tkR (i := 2) (fun K hK => ?_)
  go_simp
  (go_at_call 8; refine (TO1.out _ (by first | exact XA1.out _ hx | exact XA1.out _ (SGL.out _ _ hx (Below.refl _ _).drew))).mono ?_; rintro e we1 ⟨s1_0, rfl, ho, hB, _⟩; have h2 : Below w.heap.size w we1 ∧ we1.heap[w.heap.size]? = some (.cells #[.slice a0_0 x0.tables.length c0_0] 24) ∧ we1.heap[w.heap.size + 1]? = some (.cells #[.slice a1_0 x1.tables.length c1_0, .int .i64 x1.next] 27) ∧ we1.heap[b0]? = some (.cells #[.slice ra R0.tables.length rc, .int .i64 R0.next] 32) ∧ Rd we1 (· < wc.heap.size) (dRowSS R0.tables) (.slice ra R0.tables.length rc) ∧ we1.heap[wx0.heap.size]? = some (.cells #[.slice (some ⟨p0_0, 0, none⟩) x0.tables.length x0.tables.length] 37) ∧ Own we1 (dTableS x0.tables) (fun c => u0 ≤ c ∧ c < wx0.heap.size) (.slice (some ⟨p0_0, 0, none⟩) x0.tables.length x0.tables.length) ∧ we1.heap[wx1.heap.size]? = some (.cells #[.slice (some ⟨p1_0, 0, none⟩) x1.tables.length x1.tables.length, .int .i64 x1.next] 32) ∧ Own we1 (dRowSS x1.tables) (fun c => u1 ≤ c ∧ c < wx1.heap.size) (.slice (some ⟨p1_0, 0, none⟩) x1.tables.length x1.tables.length) ∧ we1.heap[wg.heap.size]? = some (.cells #[.slice ga R0.tables.length gc, .int .i64 R0.next] 32) ∧ Own we1 (dRowSS R0.tables) (fun c => ug ≤ c ∧ c < wg.heap.size) (.slice ga R0.tables.length gc) := (by first | exact SGL.out _ _ hx hB | exact SGL.out _ _ (SGL.out _ _ hx (Below.refl _ _).drew) hB); clear hx; have hx := h2; clear h2; have RE1_0 : Hid (Rd _ (fun _ => True) (dRowSS x1.tables) (.slice (some ⟨s1_0, 0, none⟩) x1.tables.length x1.tables.length)) := (Owns.one ho (j := 0) (by omega)).rd'.any; clear hB ho)
  refine hK.out _ _ ?_ (fun hHeld => ?_)
  · (first | exact CE1.out _ hx | exact CE1.out _ (SGL.out _ _ hx (Below.refl _ _).drew))
  clear hK K
  try simp only [Act.put, tkS]
  refine tkR (i := 3) (fun K hK => ?_)
  go_simp
  (go_at_call 10; refine (EQ1.out _ _ _ _ _ (by first | exact Rd.any (Own.rd' (hx.2.2.2.2.2.2.2.2.1)) | exact Rd.later (Rd.any (Own.rd' (hx.2.2.2.2.2.2.2.2.1))) (Below.refl _ _).drew) (by first | exact RE1_0.out | exact Rd.later RE1_0.out (Below.refl _ _).drew)).mono ?_; rintro e wf1 ⟨rfl, hB⟩; have h2 : Below w.heap.size w wf1 ∧ wf1.heap[w.heap.size]? = some (.cells #[.slice a0_0 x0.tables.length c0_0] 24) ∧ wf1.heap[w.heap.size + 1]? = some (.cells #[.slice a1_0 x1.tables.length c1_0, .int .i64 x1.next] 27) ∧ wf1.heap[b0]? = some (.cells #[.slice ra R0.tables.length rc, .int .i64 R0.next] 32) ∧ Rd wf1 (· < wc.heap.size) (dRowSS R0.tables) (.slice ra R0.tables.length rc) ∧ wf1.heap[wx0.heap.size]? = some (.cells #[.slice (some ⟨p0_0, 0, none⟩) x0.tables.length x0.tables.length] 37) ∧ Own wf1 (dTableS x0.tables) (fun c => u0 ≤ c ∧ c < wx0.heap.size) (.slice (some ⟨p0_0, 0, none⟩) x0.tables.length x0.tables.length) ∧ wf1.heap[wx1.heap.size]? = some (.cells #[.slice (some ⟨p1_0, 0, none⟩) x1.tables.length x1.tables.length, .int .i64 x1.next] 32) ∧ Own wf1 (dRowSS x1.tables) (fun c => u1 ≤ c ∧ c < wx1.heap.size) (.slice (some ⟨p1_0, 0, none⟩) x1.tables.length x1.tables.length) ∧ wf1.heap[wg.heap.size]? = some (.cells #[.slice ga R0.tables.length gc, .int .i64 R0.next] 32) ∧ Own wf1 (dRowSS R0.tables) (fun c => ug ≤ c ∧ c < wg.heap.size) (.slice ga R0.tables.length gc) := (by first | exact SGL.out _ _ hx hB | exact SGL.out _ _ (SGL.out _ _ hx (Below.refl _ _).drew) hB); clear hx hB; have hx := h2; clear h2)
  refine hK.out _ _ ?_ (fun hHeld => ?_)
  · (first | exact CE1.out _ hx | exact CE1.out _ (SGL.out _ _ hx (Below.refl _ _).drew))
  clear hK K
  try simp only [Act.put, tkS]
  refine tkB (i := 4) ?_
  refine wpAnyH_done (by kernel_rfl) ?_ _
  have N3 := Lib.hid hx
  clear f_arg0_0 f_arg1_0 f_arg1_1 f_w0_0 f_w0_1 f_x0_0 f_x1_0 f_x1_1 f_g_0 f_g_1
  clear hx RE1_0
  have f_arg0_0 := cell_at (o := 0) N3.out.2.1 rfl
  have f_arg1_0 := cell_at (o := 0) N3.out.2.2.1 rfl
  have f_arg1_1 := cell_at (o := 1) N3.out.2.2.1 rfl
  have f_w0_0 := cell_at (o := 0) N3.out.2.2.2.1 rfl
  have f_w0_1 := cell_at (o := 1) N3.out.2.2.2.1 rfl
  have f_x0_0 := cell_at (o := 0) N3.out.2.2.2.2.2.1 rfl
  have f_x1_0 := cell_at (o := 0) N3.out.2.2.2.2.2.2.2.1 rfl
  have f_x1_1 := cell_at (o := 1) N3.out.2.2.2.2.2.2.2.1 rfl
  have f_g_0 := cell_at (o := 0) N3.out.2.2.2.2.2.2.2.2.2.1 rfl
  have f_g_1 := cell_at (o := 1) N3.out.2.2.2.2.2.2.2.2.2.1 rfl
  go_wp2_with fail
  have MB : Hid True := trivial
  have T0F : Hid (∀ W W', (Below w.heap.size w W ∧ W.heap[w.heap.size]? = some (.cells #[.slice a0_0 x0.tables.length c0_0] 24) ∧ W.heap[w.heap.size + 1]? = some (.cells #[.slice a1_0 x1.tables.length c1_0, .int .i64 x1.next] 27) ∧ W.heap[b0]? = some (.cells #[.slice ra R0.tables.length rc, .int .i64 R0.next] 32) ∧ Rd W (· < wc.heap.size) (dRowSS R0.tables) (.slice ra R0.tables.length rc) ∧ W.heap[wx0.heap.size]? = some (.cells #[.slice (some ⟨p0_0, 0, none⟩) x0.tables.length x0.tables.length] 37) ∧ Own W (dTableS x0.tables) (fun c => u0 ≤ c ∧ c < wx0.heap.size) (.slice (some ⟨p0_0, 0, none⟩) x0.tables.length x0.tables.length) ∧ W.heap[wx1.heap.size]? = some (.cells #[.slice (some ⟨p1_0, 0, none⟩) x1.tables.length x1.tables.length, .int .i64 x1.next] 32) ∧ Own W (dRowSS x1.tables) (fun c => u1 ≤ c ∧ c < wx1.heap.size) (.slice (some ⟨p1_0, 0, none⟩) x1.tables.length x1.tables.length) ∧ W.heap[wg.heap.size]? = some (.cells #[.slice ga R0.tables.length gc, .int .i64 R0.next] 32) ∧ Own W (dRowSS R0.tables) (fun c => ug ≤ c ∧ c < wg.heap.size) (.slice ga R0.tables.length gc)) → Frm (fun c => u0 ≤ c ∧ c < wx0.heap.size) W W' → (Own W' ((dTableS x0.tables).mkd (1)) (fun c => u0 ≤ c ∧ c < wx0.heap.size) (.slice (some ⟨p0_0, 0, none⟩) x0.tables.length x0.tables.length)) → (Below w.heap.size w W' ∧ W'.heap[w.heap.size]? = some (.cells #[.slice a0_0 x0.tables.length c0_0] 24) ∧ W'.heap[w.heap.size + 1]? = some (.cells #[.slice a1_0 x1.tables.length c1_0, .int .i64 x1.next] 27) ∧ W'.heap[b0]? = some (.cells #[.slice ra R0.tables.length rc, .int .i64 R0.next] 32) ∧ Rd W' (· < wc.heap.size) (dRowSS R0.tables) (.slice ra R0.tables.length rc) ∧ W'.heap[wx0.heap.size]? = some (.cells #[.slice (some ⟨p0_0, 0, none⟩) x0.tables.length x0.tables.length] 37) ∧ Own W' ((dTableS x0.tables).mkd (1)) (fun c => u0 ≤ c ∧ c < wx0.heap.size) (.slice (some ⟨p0_0, 0, none⟩) x0.tables.length x0.tables.length) ∧ W'.heap[wx1.heap.size]? = some (.cells #[.slice (some ⟨p1_0, 0, none⟩) x1.tables.length x1.tables.length, .int .i64 x1.next] 32) ∧ Own W' (dRowSS x1.tables) (fun c => u1 ≤ c ∧ c < wx1.heap.size) (.slice (some ⟨p1_0, 0, none⟩) x1.tables.length x1.tables.length) ∧ W'.heap[wg.heap.size]? = some (.cells #[.slice ga R0.tables.length gc, .int .i64 R0.next] 32) ∧ Own W' (dRowSS R0.tables) (fun c => ug ≤ c ∧ c < wg.heap.size) (.slice ga R0.tables.length gc))) := fun W W' h hF ho0 => ⟨h.1.trans (Frm.below hF h.1.size (fun b hb hx => by have h1 := (fun (b : Nat) (hb : u0 ≤ b ∧ b < wx0.heap.size) => hb) b hx; have h2 := ORD.out; omega)), (hF.block _ (Array.getElem?_eq_some_iff.1 h.2.1).1 (fun hx => by have h1 := (fun (b : Nat) (hb : u0 ≤ b ∧ b < wx0.heap.size) => hb) _ hx; have h2 := ORD.out; omega)).trans h.2.1, (hF.block _ (Array.getElem?_eq_some_iff.1 h.2.2.1).1 (fun hx => by have h1 := (fun (b : Nat) (hb : u0 ≤ b ∧ b < wx0.heap.size) => hb) _ hx; have h2 := ORD.out; omega)).trans h.2.2.1, (hF.block _ (Array.getElem?_eq_some_iff.1 h.2.2.2.1).1 (fun hx => by have h1 := (fun (b : Nat) (hb : u0 ≤ b ∧ b < wx0.heap.size) => hb) _ hx; have h2 := ORD.out; omega)).trans h.2.2.2.1, h.2.2.2.2.1.frm hF (fun b hb hx => by have h1 := (fun (b : Nat) (hb : u0 ≤ b ∧ b < wx0.heap.size) => hb) b hx; have h2 := ORD.out; have h3 : b < wc.heap.size := hb; omega), (hF.block _ (Array.getElem?_eq_some_iff.1 h.2.2.2.2.2.1).1 (fun hx => by have h1 := (fun (b : Nat) (hb : u0 ≤ b ∧ b < wx0.heap.size) => hb) _ hx; have h2 := ORD.out; omega)).trans h.2.2.2.2.2.1, ho0, (hF.block _ (Array.getElem?_eq_some_iff.1 h.2.2.2.2.2.2.2.1).1 (fun hx => by have h1 := (fun (b : Nat) (hb : u0 ≤ b ∧ b < wx0.heap.size) => hb) _ hx; have h2 := ORD.out; omega)).trans h.2.2.2.2.2.2.2.1, h.2.2.2.2.2.2.2.2.1.frm hF (fun b hb hx => by have h1 := (fun (b : Nat) (hb : u0 ≤ b ∧ b < wx0.heap.size) => hb) b hx; have h2 := ORD.out; have h3 := (fun (b : Nat) (hb : u1 ≤ b ∧ b < wx1.heap.size) => hb) b hb; omega), (hF.block _ (Array.getElem?_eq_some_iff.1 h.2.2.2.2.2.2.2.2.2.1).1 (fun hx => by have h1 := (fun (b : Nat) (hb : u0 ≤ b ∧ b < wx0.heap.size) => hb) _ hx; have h2 := ORD.out; omega)).trans h.2.2.2.2.2.2.2.2.2.1, h.2.2.2.2.2.2.2.2.2.2.frm hF (fun b hb hx => by have h1 := (fun (b : Nat) (hb : u0 ≤ b ∧ b < wx0.heap.size) => hb) b hx; have h2 := ORD.out; have h3 := (fun (b : Nat) (hb : ug ≤ b ∧ b < wg.heap.size) => hb) b hb; omega)⟩
  refine (mkDSchema x0 (some ⟨p0_0, 0, none⟩) x0.tables.length (1) (fun c => u0 ≤ c ∧ c < wx0.heap.size) _ (HO0.out 0 (by omega)) (by omega) (by have g0 := D.wd_le (dTableS x0.tables) (HO0.out 0 (by omega)); have gz := HZ0.out; rw [szT_Schema] at gz; omega) (N3.out.2.2.2.2.2.2.1)).mono ?_
  rintro e wm0 ⟨rfl, ho, hF⟩
  have N4 := Lib.hid (T0F.out _ _ N3.out hF ho)
  clear f_arg0_0 f_arg1_0 f_arg1_1 f_w0_0 f_w0_1 f_x0_0 f_x1_0 f_x1_1 f_g_0 f_g_1
  clear ho hF N3
  have T0L : Hid (∀ W W', (Below w.heap.size w W ∧ W.heap[w.heap.size]? = some (.cells #[.slice a0_0 x0.tables.length c0_0] 24) ∧ W.heap[w.heap.size + 1]? = some (.cells #[.slice a1_0 x1.tables.length c1_0, .int .i64 x1.next] 27) ∧ W.heap[b0]? = some (.cells #[.slice ra R0.tables.length rc, .int .i64 R0.next] 32) ∧ Rd W (· < wc.heap.size) (dRowSS R0.tables) (.slice ra R0.tables.length rc) ∧ W.heap[wx0.heap.size]? = some (.cells #[.slice (some ⟨p0_0, 0, none⟩) x0.tables.length x0.tables.length] 37) ∧ Own W ((dTableS x0.tables).mkd (1)) (fun c => u0 ≤ c ∧ c < wx0.heap.size) (.slice (some ⟨p0_0, 0, none⟩) x0.tables.length x0.tables.length) ∧ W.heap[wx1.heap.size]? = some (.cells #[.slice (some ⟨p1_0, 0, none⟩) x1.tables.length x1.tables.length, .int .i64 x1.next] 32) ∧ Own W (dRowSS x1.tables) (fun c => u1 ≤ c ∧ c < wx1.heap.size) (.slice (some ⟨p1_0, 0, none⟩) x1.tables.length x1.tables.length) ∧ W.heap[wg.heap.size]? = some (.cells #[.slice ga R0.tables.length gc, .int .i64 R0.next] 32) ∧ Own W (dRowSS R0.tables) (fun c => ug ≤ c ∧ c < wg.heap.size) (.slice ga R0.tables.length gc)) → Below W.heap.size W W' → (Below w.heap.size w W' ∧ W'.heap[w.heap.size]? = some (.cells #[.slice a0_0 x0.tables.length c0_0] 24) ∧ W'.heap[w.heap.size + 1]? = some (.cells #[.slice a1_0 x1.tables.length c1_0, .int .i64 x1.next] 27) ∧ W'.heap[b0]? = some (.cells #[.slice ra R0.tables.length rc, .int .i64 R0.next] 32) ∧ Rd W' (· < wc.heap.size) (dRowSS R0.tables) (.slice ra R0.tables.length rc) ∧ W'.heap[wx0.heap.size]? = some (.cells #[.slice (some ⟨p0_0, 0, none⟩) x0.tables.length x0.tables.length] 37) ∧ Own W' ((dTableS x0.tables).mkd (1)) (fun c => u0 ≤ c ∧ c < wx0.heap.size) (.slice (some ⟨p0_0, 0, none⟩) x0.tables.length x0.tables.length) ∧ W'.heap[wx1.heap.size]? = some (.cells #[.slice (some ⟨p1_0, 0, none⟩) x1.tables.length x1.tables.length, .int .i64 x1.next] 32) ∧ Own W' (dRowSS x1.tables) (fun c => u1 ≤ c ∧ c < wx1.heap.size) (.slice (some ⟨p1_0, 0, none⟩) x1.tables.length x1.tables.length) ∧ W'.heap[wg.heap.size]? = some (.cells #[.slice ga R0.tables.length gc, .int .i64 R0.next] 32) ∧ Own W' (dRowSS R0.tables) (fun c => ug ≤ c ∧ c < wg.heap.size) (.slice ga R0.tables.length gc))) := fun W W' h hB => ⟨h.1.trans (hB.mono h.1.size), heap_keptD h.2.1 hB, heap_keptD h.2.2.1 hB, heap_keptD h.2.2.2.1 hB, h.2.2.2.2.1.later hB, heap_keptD h.2.2.2.2.2.1 hB, h.2.2.2.2.2.2.1.later hB, heap_keptD h.2.2.2.2.2.2.2.1 hB, h.2.2.2.2.2.2.2.2.1.later hB, heap_keptD h.2.2.2.2.2.2.2.2.2.1 hB, h.2.2.2.2.2.2.2.2.2.2.later hB⟩
  obtain ⟨k0, hk0⟩ : ∃ y : Nat, y = 1 + (dTableS x0.tables).wd := ⟨_, rfl⟩
  rw [← hk0]
  have hkb0 : Hid (k0 < 1000000000 ∧ 0 < k0) := by rw [hk0]; have g0 := D.wd_le (dTableS x0.tables) (HO0.out 0 (by omega)); have gz := HZ0.out; rw [szT_Schema] at gz; show _ ∧ _; omega
  have dk0 : decide ((k0 : Int) < 0) = false := by simp
  clear hk0
  have f_arg0_0 := cell_at (o := 0) N4.out.2.1 rfl
  have f_arg1_0 := cell_at (o := 0) N4.out.2.2.1 rfl
  have f_arg1_1 := cell_at (o := 1) N4.out.2.2.1 rfl
  have f_w0_0 := cell_at (o := 0) N4.out.2.2.2.1 rfl
  have f_w0_1 := cell_at (o := 1) N4.out.2.2.2.1 rfl
  have f_x0_0 := cell_at (o := 0) N4.out.2.2.2.2.2.1 rfl
  have f_x1_0 := cell_at (o := 0) N4.out.2.2.2.2.2.2.2.1 rfl
  have f_x1_1 := cell_at (o := 1) N4.out.2.2.2.2.2.2.2.1 rfl
  have f_g_0 := cell_at (o := 0) N4.out.2.2.2.2.2.2.2.2.2.1 rfl
  have f_g_1 := cell_at (o := 1) N4.out.2.2.2.2.2.2.2.2.2.1 rfl
  go_wp2_with fail
  have T1F : Hid (∀ W W', (Below w.heap.size w W ∧ W.heap[w.heap.size]? = some (.cells #[.slice a0_0 x0.tables.length c0_0] 24) ∧ W.heap[w.heap.size + 1]? = some (.cells #[.slice a1_0 x1.tables.length c1_0, .int .i64 x1.next] 27) ∧ W.heap[b0]? = some (.cells #[.slice ra R0.tables.length rc, .int .i64 R0.next] 32) ∧ Rd W (· < wc.heap.size) (dRowSS R0.tables) (.slice ra R0.tables.length rc) ∧ W.heap[wx0.heap.size]? = some (.cells #[.slice (some ⟨p0_0, 0, none⟩) x0.tables.length x0.tables.length] 37) ∧ Own W ((dTableS x0.tables).mkd (1)) (fun c => u0 ≤ c ∧ c < wx0.heap.size) (.slice (some ⟨p0_0, 0, none⟩) x0.tables.length x0.tables.length) ∧ W.heap[wx1.heap.size]? = some (.cells #[.slice (some ⟨p1_0, 0, none⟩) x1.tables.length x1.tables.length, .int .i64 x1.next] 32) ∧ Own W (dRowSS x1.tables) (fun c => u1 ≤ c ∧ c < wx1.heap.size) (.slice (some ⟨p1_0, 0, none⟩) x1.tables.length x1.tables.length) ∧ W.heap[wg.heap.size]? = some (.cells #[.slice ga R0.tables.length gc, .int .i64 R0.next] 32) ∧ Own W (dRowSS R0.tables) (fun c => ug ≤ c ∧ c < wg.heap.size) (.slice ga R0.tables.length gc)) → Frm (fun c => u1 ≤ c ∧ c < wx1.heap.size) W W' → (Own W' ((dRowSS x1.tables).mkd (k0)) (fun c => u1 ≤ c ∧ c < wx1.heap.size) (.slice (some ⟨p1_0, 0, none⟩) x1.tables.length x1.tables.length)) → (Below w.heap.size w W' ∧ W'.heap[w.heap.size]? = some (.cells #[.slice a0_0 x0.tables.length c0_0] 24) ∧ W'.heap[w.heap.size + 1]? = some (.cells #[.slice a1_0 x1.tables.length c1_0, .int .i64 x1.next] 27) ∧ W'.heap[b0]? = some (.cells #[.slice ra R0.tables.length rc, .int .i64 R0.next] 32) ∧ Rd W' (· < wc.heap.size) (dRowSS R0.tables) (.slice ra R0.tables.length rc) ∧ W'.heap[wx0.heap.size]? = some (.cells #[.slice (some ⟨p0_0, 0, none⟩) x0.tables.length x0.tables.length] 37) ∧ Own W' ((dTableS x0.tables).mkd (1)) (fun c => u0 ≤ c ∧ c < wx0.heap.size) (.slice (some ⟨p0_0, 0, none⟩) x0.tables.length x0.tables.length) ∧ W'.heap[wx1.heap.size]? = some (.cells #[.slice (some ⟨p1_0, 0, none⟩) x1.tables.length x1.tables.length, .int .i64 x1.next] 32) ∧ Own W' ((dRowSS x1.tables).mkd (k0)) (fun c => u1 ≤ c ∧ c < wx1.heap.size) (.slice (some ⟨p1_0, 0, none⟩) x1.tables.length x1.tables.length) ∧ W'.heap[wg.heap.size]? = some (.cells #[.slice ga R0.tables.length gc, .int .i64 R0.next] 32) ∧ Own W' (dRowSS R0.tables) (fun c => ug ≤ c ∧ c < wg.heap.size) (.slice ga R0.tables.length gc))) := fun W W' h hF ho0 => ⟨h.1.trans (Frm.below hF h.1.size (fun b hb hx => by have h1 := (fun (b : Nat) (hb : u1 ≤ b ∧ b < wx1.heap.size) => hb) b hx; have h2 := ORD.out; omega)), (hF.block _ (Array.getElem?_eq_some_iff.1 h.2.1).1 (fun hx => by have h1 := (fun (b : Nat) (hb : u1 ≤ b ∧ b < wx1.heap.size) => hb) _ hx; have h2 := ORD.out; omega)).trans h.2.1, (hF.block _ (Array.getElem?_eq_some_iff.1 h.2.2.1).1 (fun hx => by have h1 := (fun (b : Nat) (hb : u1 ≤ b ∧ b < wx1.heap.size) => hb) _ hx; have h2 := ORD.out; omega)).trans h.2.2.1, (hF.block _ (Array.getElem?_eq_some_iff.1 h.2.2.2.1).1 (fun hx => by have h1 := (fun (b : Nat) (hb : u1 ≤ b ∧ b < wx1.heap.size) => hb) _ hx; have h2 := ORD.out; omega)).trans h.2.2.2.1, h.2.2.2.2.1.frm hF (fun b hb hx => by have h1 := (fun (b : Nat) (hb : u1 ≤ b ∧ b < wx1.heap.size) => hb) b hx; have h2 := ORD.out; have h3 : b < wc.heap.size := hb; omega), (hF.block _ (Array.getElem?_eq_some_iff.1 h.2.2.2.2.2.1).1 (fun hx => by have h1 := (fun (b : Nat) (hb : u1 ≤ b ∧ b < wx1.heap.size) => hb) _ hx; have h2 := ORD.out; omega)).trans h.2.2.2.2.2.1, h.2.2.2.2.2.2.1.frm hF (fun b hb hx => by have h1 := (fun (b : Nat) (hb : u1 ≤ b ∧ b < wx1.heap.size) => hb) b hx; have h2 := ORD.out; have h3 := (fun (b : Nat) (hb : u0 ≤ b ∧ b < wx0.heap.size) => hb) b hb; omega), (hF.block _ (Array.getElem?_eq_some_iff.1 h.2.2.2.2.2.2.2.1).1 (fun hx => by have h1 := (fun (b : Nat) (hb : u1 ≤ b ∧ b < wx1.heap.size) => hb) _ hx; have h2 := ORD.out; omega)).trans h.2.2.2.2.2.2.2.1, ho0, (hF.block _ (Array.getElem?_eq_some_iff.1 h.2.2.2.2.2.2.2.2.2.1).1 (fun hx => by have h1 := (fun (b : Nat) (hb : u1 ≤ b ∧ b < wx1.heap.size) => hb) _ hx; have h2 := ORD.out; omega)).trans h.2.2.2.2.2.2.2.2.2.1, h.2.2.2.2.2.2.2.2.2.2.frm hF (fun b hb hx => by have h1 := (fun (b : Nat) (hb : u1 ≤ b ∧ b < wx1.heap.size) => hb) b hx; have h2 := ORD.out; have h3 := (fun (b : Nat) (hb : ug ≤ b ∧ b < wg.heap.size) => hb) b hb; omega)⟩
  refine (mkDStore x1 (some ⟨p1_0, 0, none⟩) x1.tables.length (k0) (fun c => u1 ≤ c ∧ c < wx1.heap.size) _ (HO1.out 0 (by omega)) (by have gk := hkb0.out; omega) (by have gk := hkb0.out; have g0 := D.wd_le (dRowSS x1.tables) (HO1.out 0 (by omega)); have gz := HZ1.out; rw [szT_Store] at gz; omega) (N4.out.2.2.2.2.2.2.2.2.1)).mono ?_
  rintro e wm1 ⟨rfl, ho, hF⟩
  have N5 := Lib.hid (T1F.out _ _ N4.out hF ho)
  clear f_arg0_0 f_arg1_0 f_arg1_1 f_w0_0 f_w0_1 f_x0_0 f_x1_0 f_x1_1 f_g_0 f_g_1
  clear ho hF N4
  have T1L : Hid (∀ W W', (Below w.heap.size w W ∧ W.heap[w.heap.size]? = some (.cells #[.slice a0_0 x0.tables.length c0_0] 24) ∧ W.heap[w.heap.size + 1]? = some (.cells #[.slice a1_0 x1.tables.length c1_0, .int .i64 x1.next] 27) ∧ W.heap[b0]? = some (.cells #[.slice ra R0.tables.length rc, .int .i64 R0.next] 32) ∧ Rd W (· < wc.heap.size) (dRowSS R0.tables) (.slice ra R0.tables.length rc) ∧ W.heap[wx0.heap.size]? = some (.cells #[.slice (some ⟨p0_0, 0, none⟩) x0.tables.length x0.tables.length] 37) ∧ Own W ((dTableS x0.tables).mkd (1)) (fun c => u0 ≤ c ∧ c < wx0.heap.size) (.slice (some ⟨p0_0, 0, none⟩) x0.tables.length x0.tables.length) ∧ W.heap[wx1.heap.size]? = some (.cells #[.slice (some ⟨p1_0, 0, none⟩) x1.tables.length x1.tables.length, .int .i64 x1.next] 32) ∧ Own W ((dRowSS x1.tables).mkd (k0)) (fun c => u1 ≤ c ∧ c < wx1.heap.size) (.slice (some ⟨p1_0, 0, none⟩) x1.tables.length x1.tables.length) ∧ W.heap[wg.heap.size]? = some (.cells #[.slice ga R0.tables.length gc, .int .i64 R0.next] 32) ∧ Own W (dRowSS R0.tables) (fun c => ug ≤ c ∧ c < wg.heap.size) (.slice ga R0.tables.length gc)) → Below W.heap.size W W' → (Below w.heap.size w W' ∧ W'.heap[w.heap.size]? = some (.cells #[.slice a0_0 x0.tables.length c0_0] 24) ∧ W'.heap[w.heap.size + 1]? = some (.cells #[.slice a1_0 x1.tables.length c1_0, .int .i64 x1.next] 27) ∧ W'.heap[b0]? = some (.cells #[.slice ra R0.tables.length rc, .int .i64 R0.next] 32) ∧ Rd W' (· < wc.heap.size) (dRowSS R0.tables) (.slice ra R0.tables.length rc) ∧ W'.heap[wx0.heap.size]? = some (.cells #[.slice (some ⟨p0_0, 0, none⟩) x0.tables.length x0.tables.length] 37) ∧ Own W' ((dTableS x0.tables).mkd (1)) (fun c => u0 ≤ c ∧ c < wx0.heap.size) (.slice (some ⟨p0_0, 0, none⟩) x0.tables.length x0.tables.length) ∧ W'.heap[wx1.heap.size]? = some (.cells #[.slice (some ⟨p1_0, 0, none⟩) x1.tables.length x1.tables.length, .int .i64 x1.next] 32) ∧ Own W' ((dRowSS x1.tables).mkd (k0)) (fun c => u1 ≤ c ∧ c < wx1.heap.size) (.slice (some ⟨p1_0, 0, none⟩) x1.tables.length x1.tables.length) ∧ W'.heap[wg.heap.size]? = some (.cells #[.slice ga R0.tables.length gc, .int .i64 R0.next] 32) ∧ Own W' (dRowSS R0.tables) (fun c => ug ≤ c ∧ c < wg.heap.size) (.slice ga R0.tables.length gc))) := fun W W' h hB => ⟨h.1.trans (hB.mono h.1.size), heap_keptD h.2.1 hB, heap_keptD h.2.2.1 hB, heap_keptD h.2.2.2.1 hB, h.2.2.2.2.1.later hB, heap_keptD h.2.2.2.2.2.1 hB, h.2.2.2.2.2.2.1.later hB, heap_keptD h.2.2.2.2.2.2.2.1 hB, h.2.2.2.2.2.2.2.2.1.later hB, heap_keptD h.2.2.2.2.2.2.2.2.2.1 hB, h.2.2.2.2.2.2.2.2.2.2.later hB⟩
  obtain ⟨k1, hk1⟩ : ∃ y : Nat, y = k0 + (dRowSS x1.tables).wd := ⟨_, rfl⟩
  rw [← hk1]
  have hkb1 : Hid (k1 < 2000000000 ∧ 0 < k1) := by rw [hk1]; have gk := hkb0.out; have g0 := D.wd_le (dRowSS x1.tables) (HO1.out 0 (by omega)); have gz := HZ1.out; rw [szT_Store] at gz; show _ ∧ _; omega
  have dk1 : decide ((k1 : Int) < 0) = false := by simp
  clear hk1
  have f_arg0_0 := cell_at (o := 0) N5.out.2.1 rfl
  have f_arg1_0 := cell_at (o := 0) N5.out.2.2.1 rfl
  have f_arg1_1 := cell_at (o := 1) N5.out.2.2.1 rfl
  have f_w0_0 := cell_at (o := 0) N5.out.2.2.2.1 rfl
  have f_w0_1 := cell_at (o := 1) N5.out.2.2.2.1 rfl
  have f_x0_0 := cell_at (o := 0) N5.out.2.2.2.2.2.1 rfl
  have f_x1_0 := cell_at (o := 0) N5.out.2.2.2.2.2.2.2.1 rfl
  have f_x1_1 := cell_at (o := 1) N5.out.2.2.2.2.2.2.2.1 rfl
  have f_g_0 := cell_at (o := 0) N5.out.2.2.2.2.2.2.2.2.2.1 rfl
  have f_g_1 := cell_at (o := 1) N5.out.2.2.2.2.2.2.2.2.2.1 rfl
  go_wp2_with fail
  refine (EQR.out _ _ _ _ _ (Rd.any (Own.rd' (N5.out.2.2.2.2.2.2.2.2.2.2))) (Rd.any (N5.out.2.2.2.2.1))).mono ?_
  rintro e wc5 ⟨rfl, hB⟩
  have N6 := Lib.hid (T1L.out _ _ N5.out hB)
  clear f_arg0_0 f_arg1_0 f_arg1_1 f_w0_0 f_w0_1 f_x0_0 f_x1_0 f_x1_1 f_g_0 f_g_1
  clear hB N5
  have f_arg0_0 := cell_at (o := 0) N6.out.2.1 rfl
  have f_arg1_0 := cell_at (o := 0) N6.out.2.2.1 rfl
  have f_arg1_1 := cell_at (o := 1) N6.out.2.2.1 rfl
  have f_w0_0 := cell_at (o := 0) N6.out.2.2.2.1 rfl
  have f_w0_1 := cell_at (o := 1) N6.out.2.2.2.1 rfl
  have f_x0_0 := cell_at (o := 0) N6.out.2.2.2.2.2.1 rfl
  have f_x1_0 := cell_at (o := 0) N6.out.2.2.2.2.2.2.2.1 rfl
  have f_x1_1 := cell_at (o := 1) N6.out.2.2.2.2.2.2.2.1 rfl
  have f_g_0 := cell_at (o := 0) N6.out.2.2.2.2.2.2.2.2.2.1 rfl
  have f_g_1 := cell_at (o := 1) N6.out.2.2.2.2.2.2.2.2.2.1 rfl
  go_wp2_with fail
  have TGF : Hid (∀ W W', (Below w.heap.size w W ∧ W.heap[w.heap.size]? = some (.cells #[.slice a0_0 x0.tables.length c0_0] 24) ∧ W.heap[w.heap.size + 1]? = some (.cells #[.slice a1_0 x1.tables.length c1_0, .int .i64 x1.next] 27) ∧ W.heap[b0]? = some (.cells #[.slice ra R0.tables.length rc, .int .i64 R0.next] 32) ∧ Rd W (· < wc.heap.size) (dRowSS R0.tables) (.slice ra R0.tables.length rc) ∧ W.heap[wx0.heap.size]? = some (.cells #[.slice (some ⟨p0_0, 0, none⟩) x0.tables.length x0.tables.length] 37) ∧ Own W ((dTableS x0.tables).mkd (1)) (fun c => u0 ≤ c ∧ c < wx0.heap.size) (.slice (some ⟨p0_0, 0, none⟩) x0.tables.length x0.tables.length) ∧ W.heap[wx1.heap.size]? = some (.cells #[.slice (some ⟨p1_0, 0, none⟩) x1.tables.length x1.tables.length, .int .i64 x1.next] 32) ∧ Own W ((dRowSS x1.tables).mkd (k0)) (fun c => u1 ≤ c ∧ c < wx1.heap.size) (.slice (some ⟨p1_0, 0, none⟩) x1.tables.length x1.tables.length) ∧ W.heap[wg.heap.size]? = some (.cells #[.slice ga R0.tables.length gc, .int .i64 R0.next] 32) ∧ Own W (dRowSS R0.tables) (fun c => ug ≤ c ∧ c < wg.heap.size) (.slice ga R0.tables.length gc)) → Frm (fun c => ug ≤ c ∧ c < wg.heap.size) W W' → (Own W' ((dRowSS R0.tables).mkd 1) (fun c => ug ≤ c ∧ c < wg.heap.size) (.slice ga R0.tables.length gc)) → (Below w.heap.size w W' ∧ W'.heap[w.heap.size]? = some (.cells #[.slice a0_0 x0.tables.length c0_0] 24) ∧ W'.heap[w.heap.size + 1]? = some (.cells #[.slice a1_0 x1.tables.length c1_0, .int .i64 x1.next] 27) ∧ W'.heap[b0]? = some (.cells #[.slice ra R0.tables.length rc, .int .i64 R0.next] 32) ∧ Rd W' (· < wc.heap.size) (dRowSS R0.tables) (.slice ra R0.tables.length rc) ∧ W'.heap[wx0.heap.size]? = some (.cells #[.slice (some ⟨p0_0, 0, none⟩) x0.tables.length x0.tables.length] 37) ∧ Own W' ((dTableS x0.tables).mkd (1)) (fun c => u0 ≤ c ∧ c < wx0.heap.size) (.slice (some ⟨p0_0, 0, none⟩) x0.tables.length x0.tables.length) ∧ W'.heap[wx1.heap.size]? = some (.cells #[.slice (some ⟨p1_0, 0, none⟩) x1.tables.length x1.tables.length, .int .i64 x1.next] 32) ∧ Own W' ((dRowSS x1.tables).mkd (k0)) (fun c => u1 ≤ c ∧ c < wx1.heap.size) (.slice (some ⟨p1_0, 0, none⟩) x1.tables.length x1.tables.length) ∧ W'.heap[wg.heap.size]? = some (.cells #[.slice ga R0.tables.length gc, .int .i64 R0.next] 32) ∧ Own W' ((dRowSS R0.tables).mkd 1) (fun c => ug ≤ c ∧ c < wg.heap.size) (.slice ga R0.tables.length gc))) := fun W W' h hF ho0 => ⟨h.1.trans (Frm.below hF h.1.size (fun b hb hx => by have h1 := (fun (b : Nat) (hb : ug ≤ b ∧ b < wg.heap.size) => hb) b hx; have h2 := ORD.out; omega)), (hF.block _ (Array.getElem?_eq_some_iff.1 h.2.1).1 (fun hx => by have h1 := (fun (b : Nat) (hb : ug ≤ b ∧ b < wg.heap.size) => hb) _ hx; have h2 := ORD.out; omega)).trans h.2.1, (hF.block _ (Array.getElem?_eq_some_iff.1 h.2.2.1).1 (fun hx => by have h1 := (fun (b : Nat) (hb : ug ≤ b ∧ b < wg.heap.size) => hb) _ hx; have h2 := ORD.out; omega)).trans h.2.2.1, (hF.block _ (Array.getElem?_eq_some_iff.1 h.2.2.2.1).1 (fun hx => by have h1 := (fun (b : Nat) (hb : ug ≤ b ∧ b < wg.heap.size) => hb) _ hx; have h2 := ORD.out; omega)).trans h.2.2.2.1, h.2.2.2.2.1.frm hF (fun b hb hx => by have h1 := (fun (b : Nat) (hb : ug ≤ b ∧ b < wg.heap.size) => hb) b hx; have h2 := ORD.out; have h3 : b < wc.heap.size := hb; omega), (hF.block _ (Array.getElem?_eq_some_iff.1 h.2.2.2.2.2.1).1 (fun hx => by have h1 := (fun (b : Nat) (hb : ug ≤ b ∧ b < wg.heap.size) => hb) _ hx; have h2 := ORD.out; omega)).trans h.2.2.2.2.2.1, h.2.2.2.2.2.2.1.frm hF (fun b hb hx => by have h1 := (fun (b : Nat) (hb : ug ≤ b ∧ b < wg.heap.size) => hb) b hx; have h2 := ORD.out; have h3 := (fun (b : Nat) (hb : u0 ≤ b ∧ b < wx0.heap.size) => hb) b hb; omega), (hF.block _ (Array.getElem?_eq_some_iff.1 h.2.2.2.2.2.2.2.1).1 (fun hx => by have h1 := (fun (b : Nat) (hb : ug ≤ b ∧ b < wg.heap.size) => hb) _ hx; have h2 := ORD.out; omega)).trans h.2.2.2.2.2.2.2.1, h.2.2.2.2.2.2.2.2.1.frm hF (fun b hb hx => by have h1 := (fun (b : Nat) (hb : ug ≤ b ∧ b < wg.heap.size) => hb) b hx; have h2 := ORD.out; have h3 := (fun (b : Nat) (hb : u1 ≤ b ∧ b < wx1.heap.size) => hb) b hb; omega), (hF.block _ (Array.getElem?_eq_some_iff.1 h.2.2.2.2.2.2.2.2.2.1).1 (fun hx => by have h1 := (fun (b : Nat) (hb : ug ≤ b ∧ b < wg.heap.size) => hb) _ hx; have h2 := ORD.out; omega)).trans h.2.2.2.2.2.2.2.2.2.1, ho0⟩
  refine (mkDStore R0 ga gc 1 (fun c => ug ≤ c ∧ c < wg.heap.size) _ (HRB.out.1 0 (by omega)) (by omega) HRW.out (N6.out.2.2.2.2.2.2.2.2.2.2)).mono ?_
  rintro e wmg ⟨rfl, ho, hF⟩
  have N7 := Lib.hid (TGF.out _ _ N6.out hF ho)
  clear f_arg0_0 f_arg1_0 f_arg1_1 f_w0_0 f_w0_1 f_x0_0 f_x1_0 f_x1_1 f_g_0 f_g_1
  clear ho hF N6
  have TGL : Hid (∀ W W', (Below w.heap.size w W ∧ W.heap[w.heap.size]? = some (.cells #[.slice a0_0 x0.tables.length c0_0] 24) ∧ W.heap[w.heap.size + 1]? = some (.cells #[.slice a1_0 x1.tables.length c1_0, .int .i64 x1.next] 27) ∧ W.heap[b0]? = some (.cells #[.slice ra R0.tables.length rc, .int .i64 R0.next] 32) ∧ Rd W (· < wc.heap.size) (dRowSS R0.tables) (.slice ra R0.tables.length rc) ∧ W.heap[wx0.heap.size]? = some (.cells #[.slice (some ⟨p0_0, 0, none⟩) x0.tables.length x0.tables.length] 37) ∧ Own W ((dTableS x0.tables).mkd (1)) (fun c => u0 ≤ c ∧ c < wx0.heap.size) (.slice (some ⟨p0_0, 0, none⟩) x0.tables.length x0.tables.length) ∧ W.heap[wx1.heap.size]? = some (.cells #[.slice (some ⟨p1_0, 0, none⟩) x1.tables.length x1.tables.length, .int .i64 x1.next] 32) ∧ Own W ((dRowSS x1.tables).mkd (k0)) (fun c => u1 ≤ c ∧ c < wx1.heap.size) (.slice (some ⟨p1_0, 0, none⟩) x1.tables.length x1.tables.length) ∧ W.heap[wg.heap.size]? = some (.cells #[.slice ga R0.tables.length gc, .int .i64 R0.next] 32) ∧ Own W ((dRowSS R0.tables).mkd 1) (fun c => ug ≤ c ∧ c < wg.heap.size) (.slice ga R0.tables.length gc)) → Below W.heap.size W W' → (Below w.heap.size w W' ∧ W'.heap[w.heap.size]? = some (.cells #[.slice a0_0 x0.tables.length c0_0] 24) ∧ W'.heap[w.heap.size + 1]? = some (.cells #[.slice a1_0 x1.tables.length c1_0, .int .i64 x1.next] 27) ∧ W'.heap[b0]? = some (.cells #[.slice ra R0.tables.length rc, .int .i64 R0.next] 32) ∧ Rd W' (· < wc.heap.size) (dRowSS R0.tables) (.slice ra R0.tables.length rc) ∧ W'.heap[wx0.heap.size]? = some (.cells #[.slice (some ⟨p0_0, 0, none⟩) x0.tables.length x0.tables.length] 37) ∧ Own W' ((dTableS x0.tables).mkd (1)) (fun c => u0 ≤ c ∧ c < wx0.heap.size) (.slice (some ⟨p0_0, 0, none⟩) x0.tables.length x0.tables.length) ∧ W'.heap[wx1.heap.size]? = some (.cells #[.slice (some ⟨p1_0, 0, none⟩) x1.tables.length x1.tables.length, .int .i64 x1.next] 32) ∧ Own W' ((dRowSS x1.tables).mkd (k0)) (fun c => u1 ≤ c ∧ c < wx1.heap.size) (.slice (some ⟨p1_0, 0, none⟩) x1.tables.length x1.tables.length) ∧ W'.heap[wg.heap.size]? = some (.cells #[.slice ga R0.tables.length gc, .int .i64 R0.next] 32) ∧ Own W' ((dRowSS R0.tables).mkd 1) (fun c => ug ≤ c ∧ c < wg.heap.size) (.slice ga R0.tables.length gc))) := fun W W' h hB => ⟨h.1.trans (hB.mono h.1.size), heap_keptD h.2.1 hB, heap_keptD h.2.2.1 hB, heap_keptD h.2.2.2.1 hB, h.2.2.2.2.1.later hB, heap_keptD h.2.2.2.2.2.1 hB, h.2.2.2.2.2.2.1.later hB, heap_keptD h.2.2.2.2.2.2.2.1 hB, h.2.2.2.2.2.2.2.2.1.later hB, heap_keptD h.2.2.2.2.2.2.2.2.2.1 hB, h.2.2.2.2.2.2.2.2.2.2.later hB⟩
  have HD : Hid (∀ (W : World), Rd W (fun _ => True) ((dRowSS R0.tables).mkd 1) (.slice ga R0.tables.length gc) → Calls Tryz.prog 14 #[.agg #[.slice ga R0.tables.length gc, .int .i64 R0.next], .int .i64 1] W fun e w' => e = .returned (.int .i64 (1 + (dRowSS R0.tables).wd : Nat)) ∧ Below W.heap.size W w') := fun W h => hdDStore R0 ga gc 1 _ W (HRB.out.1 0 (by omega)) (by omega) HRW.out h
  obtain ⟨kg, hkg⟩ : ∃ y : Nat, y = 1 + (dRowSS R0.tables).wd := ⟨_, rfl⟩
  rw [← hkg] at HD ⊢
  have dkg : decide ((kg : Int) < 0) = false := by simp
  have nkg : ((kg : Int) != (kg : Int)) = false := by simp
  clear hkg
  have f_arg0_0 := cell_at (o := 0) N7.out.2.1 rfl
  have f_arg1_0 := cell_at (o := 0) N7.out.2.2.1 rfl
  have f_arg1_1 := cell_at (o := 1) N7.out.2.2.1 rfl
  have f_w0_0 := cell_at (o := 0) N7.out.2.2.2.1 rfl
  have f_w0_1 := cell_at (o := 1) N7.out.2.2.2.1 rfl
  have f_x0_0 := cell_at (o := 0) N7.out.2.2.2.2.2.1 rfl
  have f_x1_0 := cell_at (o := 0) N7.out.2.2.2.2.2.2.2.1 rfl
  have f_x1_1 := cell_at (o := 1) N7.out.2.2.2.2.2.2.2.1 rfl
  have f_g_0 := cell_at (o := 0) N7.out.2.2.2.2.2.2.2.2.2.1 rfl
  have f_g_1 := cell_at (o := 1) N7.out.2.2.2.2.2.2.2.2.2.1 rfl
  go_wp2_with fail
  refine (HD.out _ (Rd.any (Own.rd' (N7.out.2.2.2.2.2.2.2.2.2.2)))).mono ?_
  rintro e wh7 ⟨rfl, hB⟩
  have N8 := Lib.hid (TGL.out _ _ N7.out hB)
  clear f_arg0_0 f_arg1_0 f_arg1_1 f_w0_0 f_w0_1 f_x0_0 f_x1_0 f_x1_1 f_g_0 f_g_1
  clear hB N7
  have f_arg0_0 := cell_at (o := 0) N8.out.2.1 rfl
  have f_arg1_0 := cell_at (o := 0) N8.out.2.2.1 rfl
  have f_arg1_1 := cell_at (o := 1) N8.out.2.2.1 rfl
  have f_w0_0 := cell_at (o := 0) N8.out.2.2.2.1 rfl
  have f_w0_1 := cell_at (o := 1) N8.out.2.2.2.1 rfl
  have f_x0_0 := cell_at (o := 0) N8.out.2.2.2.2.2.1 rfl
  have f_x1_0 := cell_at (o := 0) N8.out.2.2.2.2.2.2.2.1 rfl
  have f_x1_1 := cell_at (o := 1) N8.out.2.2.2.2.2.2.2.1 rfl
  have f_g_0 := cell_at (o := 0) N8.out.2.2.2.2.2.2.2.2.2.1 rfl
  have f_g_1 := cell_at (o := 1) N8.out.2.2.2.2.2.2.2.2.2.1 rfl
  go_upto_region 31 with fail
  have HST : Hid (∀ W, Below wh7.heap.size wh7 W → (Below w.heap.size w W ∧ W.heap[w.heap.size]? = some (.cells #[.slice a0_0 x0.tables.length c0_0] 24) ∧ W.heap[w.heap.size + 1]? = some (.cells #[.slice a1_0 x1.tables.length c1_0, .int .i64 x1.next] 27) ∧ W.heap[b0]? = some (.cells #[.slice ra R0.tables.length rc, .int .i64 R0.next] 32) ∧ Rd W (· < wc.heap.size) (dRowSS R0.tables) (.slice ra R0.tables.length rc) ∧ W.heap[wx0.heap.size]? = some (.cells #[.slice (some ⟨p0_0, 0, none⟩) x0.tables.length x0.tables.length] 37) ∧ Own W ((dTableS x0.tables).mkd (1)) (fun c => u0 ≤ c ∧ c < wx0.heap.size) (.slice (some ⟨p0_0, 0, none⟩) x0.tables.length x0.tables.length) ∧ W.heap[wx1.heap.size]? = some (.cells #[.slice (some ⟨p1_0, 0, none⟩) x1.tables.length x1.tables.length, .int .i64 x1.next] 32) ∧ Own W ((dRowSS x1.tables).mkd (k0)) (fun c => u1 ≤ c ∧ c < wx1.heap.size) (.slice (some ⟨p1_0, 0, none⟩) x1.tables.length x1.tables.length) ∧ W.heap[wg.heap.size]? = some (.cells #[.slice ga R0.tables.length gc, .int .i64 R0.next] 32) ∧ Own W ((dRowSS R0.tables).mkd 1) (fun c => ug ≤ c ∧ c < wg.heap.size) (.slice ga R0.tables.length gc))) := fun W h => TGL.out _ _ N8.out h
  have CE : Hid (∀ W, (Below w.heap.size w W ∧ W.heap[w.heap.size]? = some (.cells #[.slice a0_0 x0.tables.length c0_0] 24) ∧ W.heap[w.heap.size + 1]? = some (.cells #[.slice a1_0 x1.tables.length c1_0, .int .i64 x1.next] 27) ∧ W.heap[b0]? = some (.cells #[.slice ra R0.tables.length rc, .int .i64 R0.next] 32) ∧ Rd W (· < wc.heap.size) (dRowSS R0.tables) (.slice ra R0.tables.length rc) ∧ W.heap[wx0.heap.size]? = some (.cells #[.slice (some ⟨p0_0, 0, none⟩) x0.tables.length x0.tables.length] 37) ∧ Own W ((dTableS x0.tables).mkd (1)) (fun c => u0 ≤ c ∧ c < wx0.heap.size) (.slice (some ⟨p0_0, 0, none⟩) x0.tables.length x0.tables.length) ∧ W.heap[wx1.heap.size]? = some (.cells #[.slice (some ⟨p1_0, 0, none⟩) x1.tables.length x1.tables.length, .int .i64 x1.next] 32) ∧ Own W ((dRowSS x1.tables).mkd (k0)) (fun c => u1 ≤ c ∧ c < wx1.heap.size) (.slice (some ⟨p1_0, 0, none⟩) x1.tables.length x1.tables.length) ∧ W.heap[wg.heap.size]? = some (.cells #[.slice ga R0.tables.length gc, .int .i64 R0.next] 32) ∧ Own W ((dRowSS R0.tables).mkd 1) (fun c => ug ≤ c ∧ c < wg.heap.size) (.slice ga R0.tables.length gc)) → (W.cell? ⟨w.heap.size, 0, none⟩ = some (.slice a0_0 x0.tables.length c0_0) ∧ W.cell? ⟨w.heap.size + 1, 0, none⟩ = some (.slice a1_0 x1.tables.length c1_0) ∧ W.cell? ⟨w.heap.size + 1, 1, none⟩ = some (.int .i64 x1.next))) := fun W h => ⟨cell_at (o := 0) h.2.1 rfl, cell_at (o := 0) h.2.2.1 rfl, cell_at (o := 1) h.2.2.1 rfl⟩
  have HSX : Hid (∀ W, (Below w.heap.size w W ∧ W.heap[w.heap.size]? = some (.cells #[.slice a0_0 x0.tables.length c0_0] 24) ∧ W.heap[w.heap.size + 1]? = some (.cells #[.slice a1_0 x1.tables.length c1_0, .int .i64 x1.next] 27) ∧ W.heap[b0]? = some (.cells #[.slice ra R0.tables.length rc, .int .i64 R0.next] 32) ∧ Rd W (· < wc.heap.size) (dRowSS R0.tables) (.slice ra R0.tables.length rc) ∧ W.heap[wx0.heap.size]? = some (.cells #[.slice (some ⟨p0_0, 0, none⟩) x0.tables.length x0.tables.length] 37) ∧ Own W ((dTableS x0.tables).mkd (1)) (fun c => u0 ≤ c ∧ c < wx0.heap.size) (.slice (some ⟨p0_0, 0, none⟩) x0.tables.length x0.tables.length) ∧ W.heap[wx1.heap.size]? = some (.cells #[.slice (some ⟨p1_0, 0, none⟩) x1.tables.length x1.tables.length, .int .i64 x1.next] 32) ∧ Own W ((dRowSS x1.tables).mkd (k0)) (fun c => u1 ≤ c ∧ c < wx1.heap.size) (.slice (some ⟨p1_0, 0, none⟩) x1.tables.length x1.tables.length) ∧ W.heap[wg.heap.size]? = some (.cells #[.slice ga R0.tables.length gc, .int .i64 R0.next] 32) ∧ Own W ((dRowSS R0.tables).mkd 1) (fun c => ug ≤ c ∧ c < wg.heap.size) (.slice ga R0.tables.length gc)) → (Below w.heap.size w W ∧ W.heap[w.heap.size]? = some (.cells #[.slice a0_0 x0.tables.length c0_0] 24) ∧ W.heap[w.heap.size + 1]? = some (.cells #[.slice a1_0 x1.tables.length c1_0, .int .i64 x1.next] 27))) := fun W h => ⟨h.1, h.2.1, h.2.2.1⟩
  clear N8 f_arg0_0 f_arg1_0 f_arg1_1 f_w0_0 f_w0_1 f_x0_0 f_x1_0 f_x1_1 f_g_0 f_g_1
  go_cut [15, 16] from 94 to 101 (fun s0 s1 wx => ∃ (ya : Option Addr) (yc b1 : Nat), s0 = .pointer (some ⟨b1, 0, none⟩) ∧ s1 = .int .i64 R1 ∧ Hid ((Below w.heap.size w wx ∧ wx.heap[w.heap.size]? = some (.cells #[.slice a0_0 x0.tables.length c0_0] 24) ∧ wx.heap[w.heap.size + 1]? = some (.cells #[.slice a1_0 x1.tables.length c1_0, .int .i64 x1.next] 27) ∧ wx.heap[b0]? = some (.cells #[.slice ra R0.tables.length rc, .int .i64 R0.next] 32) ∧ Rd wx (· < wc.heap.size) (dRowSS R0.tables) (.slice ra R0.tables.length rc) ∧ wx.heap[wx0.heap.size]? = some (.cells #[.slice (some ⟨p0_0, 0, none⟩) x0.tables.length x0.tables.length] 37) ∧ Own wx ((dTableS x0.tables).mkd (1)) (fun c => u0 ≤ c ∧ c < wx0.heap.size) (.slice (some ⟨p0_0, 0, none⟩) x0.tables.length x0.tables.length) ∧ wx.heap[wx1.heap.size]? = some (.cells #[.slice (some ⟨p1_0, 0, none⟩) x1.tables.length x1.tables.length, .int .i64 x1.next] 32) ∧ Own wx ((dRowSS x1.tables).mkd (k0)) (fun c => u1 ≤ c ∧ c < wx1.heap.size) (.slice (some ⟨p1_0, 0, none⟩) x1.tables.length x1.tables.length) ∧ wx.heap[wg.heap.size]? = some (.cells #[.slice ga R0.tables.length gc, .int .i64 R0.next] 32) ∧ Own wx ((dRowSS R0.tables).mkd 1) (fun c => ug ≤ c ∧ c < wg.heap.size) (.slice ga R0.tables.length gc)) ∧ wx.heap[b1]? = some (.cells #[.slice ya R0.tables.length yc, .int .i64 R0.next] 32) ∧ Rd wx (fun _ => True) (dRowSS R0.tables) (.slice ya R0.tables.length yc)))
  case first =>
    have BS : Hid (Below wh7.heap.size wh7 wh7) := Below.refl _ _
    refine wp_region_held_drew (S := (fun W => W.cell? ⟨w.heap.size, 0, none⟩ = some (.slice a0_0 x0.tables.length c0_0) ∧ W.cell? ⟨w.heap.size + 1, 0, none⟩ = some (.slice a1_0 x1.tables.length c1_0) ∧ W.cell? ⟨w.heap.size + 1, 1, none⟩ = some (.int .i64 x1.next))) (by kernel_rfl) ?_ (fun hHeld => ?_)
    · (first | exact CE.out _ (HST.out _ BS.out) | exact CE.out _ (HST.out _ BS.out.drew))
    refine tkB (i := 0) ?_
    refine tkB (i := 2) ?_
    refine wpAnyH_ready (rs := [1, 8]) (by kernel_rfl) (by simp) (AllReadyH.cons rfl (fun K hK => ?_) (AllReadyH.cons rfl (fun K hK => ?_) AllReadyH.nil))
    ·
      go_simp
      go_at_call 7
      refine (TO0.out _ (by first | exact HSX.out _ (HST.out _ BS.out) | exact HSX.out _ (HST.out _ BS.out.drew))).mono ?_
      rintro e wt0 ⟨p0_0, rfl, ho, hB, -⟩
      have hb : Below wh7.heap.size wh7 wt0 := by first | exact hB | exact (Below.refl _ _).drew.trans hB
      have BS' : Hid (Below wh7.heap.size wh7 wt0) := BS.out.trans (hb.mono BS.out.size)
      clear BS
      have BS := BS'
      clear BS'
      have RC0_0 : Hid (∀ W, Below wt0.heap.size wt0 W → Rd W (fun _ => True) (dTableS x0.tables) (.slice (some ⟨p0_0, 0, none⟩) x0.tables.length x0.tables.length)) := fun W h => Rd.later ((Owns.one ho (j := 0) (by omega)).rd'.any) h
      have BC0 : Hid (Below wt0.heap.size wt0 wt0) := Below.refl _ _
      clear hb hB ho
      refine hK.out _ _ ?_ (fun hHeld => ?_)
      · (first | exact CE.out _ (HST.out _ BS.out) | exact CE.out _ (HST.out _ BS.out.drew))
      clear hK K
      try simp only [Act.put, tkS]
      refine wpAnyH_ready (rs := [3, 8]) (by kernel_rfl) (by simp) (AllReadyH.cons rfl (fun K hK => ?_) (AllReadyH.cons rfl (fun K hK => ?_) AllReadyH.nil))
      ·
        go_simp
        go_at_call 8
        refine (TO1.out _ (by first | exact HSX.out _ (HST.out _ BS.out) | exact HSX.out _ (HST.out _ BS.out.drew))).mono ?_
        rintro e wt1 ⟨p1_0, rfl, ho, hB, -⟩
        have hb : Below wt0.heap.size wt0 wt1 := by first | exact hB | exact (Below.refl _ _).drew.trans hB
        have BS' : Hid (Below wh7.heap.size wh7 wt1) := BS.out.trans (hb.mono BS.out.size)
        clear BS
        have BS := BS'
        clear BS'
        have BC0' : Hid (Below wt0.heap.size wt0 wt1) := BC0.out.trans (hb.mono BC0.out.size)
        clear BC0
        have BC0 := BC0'
        clear BC0'
        have RC1_0 : Hid (∀ W, Below wt1.heap.size wt1 W → Rd W (fun _ => True) (dRowSS x1.tables) (.slice (some ⟨p1_0, 0, none⟩) x1.tables.length x1.tables.length)) := fun W h => Rd.later ((Owns.one ho (j := 0) (by omega)).rd'.any) h
        have BC1 : Hid (Below wt1.heap.size wt1 wt1) := Below.refl _ _
        clear hb hB ho
        refine hK.out _ _ ?_ (fun hHeld => ?_)
        · (first | exact CE.out _ (HST.out _ BS.out) | exact CE.out _ (HST.out _ BS.out.drew))
        clear hK K
        try simp only [Act.put, tkS]
        refine wpAnyH_ready (rs := [4, 8]) (by kernel_rfl) (by simp) (AllReadyH.cons rfl (fun K hK => ?_) (AllReadyH.cons rfl (fun K hK => ?_) AllReadyH.nil))
        ·
          go_simp
          go_at_call 9
          refine (CI.out _ _ _ _ _ (by first | exact RC0_0.out _ BC0.out | exact RC0_0.out _ BC0.out.drew) (by first | exact RC1_0.out _ BC1.out | exact RC1_0.out _ BC1.out.drew)).mono ?_
          rintro e w2 ⟨ya, yc, rfl, hr2, hB⟩
          replace hr2 := Own.rd' hr2
          have hb : Below wt1.heap.size wt1 w2 := by first | exact hB | exact (Below.refl _ _).drew.trans hB
          have BS' : Hid (Below wh7.heap.size wh7 w2) := BS.out.trans (hb.mono BS.out.size)
          clear BS
          have BS := BS'
          clear BS'
          have BC0' : Hid (Below wt0.heap.size wt0 w2) := BC0.out.trans (hb.mono BC0.out.size)
          clear BC0
          have BC0 := BC0'
          clear BC0'
          have BC1' : Hid (Below wt1.heap.size wt1 w2) := BC1.out.trans (hb.mono BC1.out.size)
          clear BC1
          have BC1 := BC1'
          clear BC1'
          have HR2 : Hid (Rd w2 (fun b => wt1.heap.size ≤ b ∧ b < w2.heap.size) (dRowSS R0.tables) (.slice ya R0.tables.length yc)) := by first | exact hr2 | (simpa using hr2)
          clear hb hB hr2
          refine hK.out _ _ ?_ (fun hHeld => ?_)
          · (first | exact CE.out _ (HST.out _ BS.out) | exact CE.out _ (HST.out _ BS.out.drew))
          clear hK K
          try simp only [Act.put, tkS]
          refine tkB (i := 5) ?_
          refine tkB (i := 6) ?_
          refine tkB (i := 7) ?_
          refine tkR (i := 8) (fun K hK => ?_)
          go_simp
          have BSW : Hid (Below wh7.heap.size wh7 w2) := BS.out
          have BS' : Hid (Below wh7.heap.size wh7 (w2.alloc (.cells #[.slice none 0 0, .int .i64 0] 32))) := BS.out.alloc BS.out.size _
          clear BS
          have BS := BS'
          clear BS'
          have BC0' : Hid (Below wt0.heap.size wt0 (w2.alloc (.cells #[.slice none 0 0, .int .i64 0] 32))) := BC0.out.alloc BC0.out.size _
          clear BC0
          have BC0 := BC0'
          clear BC0'
          have BC1' : Hid (Below wt1.heap.size wt1 (w2.alloc (.cells #[.slice none 0 0, .int .i64 0] 32))) := BC1.out.alloc BC1.out.size _
          clear BC1
          have BC1 := BC1'
          clear BC1'
          have HZ : Hid (∀ W, Below (w2.alloc (.cells #[.slice none 0 0, .int .i64 0] 32)).heap.size (w2.alloc (.cells #[.slice none 0 0, .int .i64 0] 32)) W → W.heap[w2.heap.size]? = some (.cells #[.slice none 0 0, .int .i64 0] 32)) := fun W h => heap_keptD (heap_newD _ _) h
          have BA : Hid (Below (w2.alloc (.cells #[.slice none 0 0, .int .i64 0] 32)).heap.size (w2.alloc (.cells #[.slice none 0 0, .int .i64 0] 32)) (w2.alloc (.cells #[.slice none 0 0, .int .i64 0] 32))) := Below.refl _ _
          refine hK.out _ _ ?_ (fun hHeld => ?_)
          · (first | exact CE.out _ (HST.out _ BS.out) | exact CE.out _ (HST.out _ BS.out.drew))
          clear hK K
          try simp only [Act.put, tkS]
          refine tkR (i := 9) (fun K hK => ?_)
          go_simp
          have hbw2 : Below wh7.heap.size wh7 w2 := BSW.out
          have BT : Hid (Below wh7.heap.size wh7 (w2.alloc (.cells #[.slice ya R0.tables.length yc, .int .i64 R0.next] 32))) := hbw2.alloc hbw2.size _
          clear BS hbw2
          have BS := BT
          clear BT
          refine hK.out _ _ ?_ (fun hHeld => ?_)
          · (first | exact CE.out _ (HST.out _ BS.out) | exact CE.out _ (HST.out _ BS.out.drew))
          clear hK K
          try simp only [Act.put, tkS]
          refine tkB (i := 10) ?_
          refine wpAnyH_done (by kernel_rfl) ?_ _
          have HF := Lib.hid (HST.out _ BS.out)
          go_wp2_with fail
          go_meet
          exact ⟨ya, yc, _, rfl, rfl, HF.out, heap_newD _ _, (HR2.out.later (below_allocD _ _)).mono (fun _ _ => trivial)⟩
        ·
          go_simp
          have LO : Hid (wh7.heap.size ≤ wt1.heap.size) := BS.out.size
          have BS' : Hid (Below wh7.heap.size wh7 (wt1.alloc (.cells #[.slice none 0 0, .int .i64 0] 32))) := BS.out.alloc BS.out.size _
          clear BS
          have BS := BS'
          clear BS'
          have BC0' : Hid (Below wt0.heap.size wt0 (wt1.alloc (.cells #[.slice none 0 0, .int .i64 0] 32))) := BC0.out.alloc BC0.out.size _
          clear BC0
          have BC0 := BC0'
          clear BC0'
          have BC1' : Hid (Below wt1.heap.size wt1 (wt1.alloc (.cells #[.slice none 0 0, .int .i64 0] 32))) := BC1.out.alloc BC1.out.size _
          clear BC1
          have BC1 := BC1'
          clear BC1'
          have HZ : Hid (∀ W, Below (wt1.alloc (.cells #[.slice none 0 0, .int .i64 0] 32)).heap.size (wt1.alloc (.cells #[.slice none 0 0, .int .i64 0] 32)) W → W.heap[wt1.heap.size]? = some (.cells #[.slice none 0 0, .int .i64 0] 32)) := fun W h => heap_keptD (heap_newD _ _) h
          have BA : Hid (Below (wt1.alloc (.cells #[.slice none 0 0, .int .i64 0] 32)).heap.size (wt1.alloc (.cells #[.slice none 0 0, .int .i64 0] 32)) (wt1.alloc (.cells #[.slice none 0 0, .int .i64 0] 32))) := Below.refl _ _
          refine hK.out _ _ ?_ (fun hHeld => ?_)
          · (first | exact CE.out _ (HST.out _ BS.out) | exact CE.out _ (HST.out _ BS.out.drew))
          clear hK K
          try simp only [Act.put, tkS]
          refine tkR (i := 4) (fun K hK => ?_)
          go_simp
          have LT0 : Hid (wt1.heap.size < (wt1.alloc (.cells #[.slice none 0 0, .int .i64 0] 32)).heap.size) := (Array.getElem?_eq_some_iff.1 (HZ.out _ BA.out)).1
          go_at_call 9
          refine (CI.out _ _ _ _ _ (by first | exact RC0_0.out _ BC0.out | exact RC0_0.out _ BC0.out.drew) (by first | exact RC1_0.out _ BC1.out | exact RC1_0.out _ BC1.out.drew)).mono ?_
          rintro e w2 ⟨ya, yc, rfl, hr2, hB⟩
          replace hr2 := Own.rd' hr2
          have hb : Below (wt1.alloc (.cells #[.slice none 0 0, .int .i64 0] 32)).heap.size (wt1.alloc (.cells #[.slice none 0 0, .int .i64 0] 32)) w2 := by first | exact hB | exact (Below.refl _ _).drew.trans hB
          have BS' : Hid (Below wh7.heap.size wh7 w2) := BS.out.trans (hb.mono BS.out.size)
          clear BS
          have BS := BS'
          clear BS'
          have BC0' : Hid (Below wt0.heap.size wt0 w2) := BC0.out.trans (hb.mono BC0.out.size)
          clear BC0
          have BC0 := BC0'
          clear BC0'
          have BC1' : Hid (Below wt1.heap.size wt1 w2) := BC1.out.trans (hb.mono BC1.out.size)
          clear BC1
          have BC1 := BC1'
          clear BC1'
          have BA' : Hid (Below (wt1.alloc (.cells #[.slice none 0 0, .int .i64 0] 32)).heap.size (wt1.alloc (.cells #[.slice none 0 0, .int .i64 0] 32)) w2) := BA.out.trans (hb.mono BA.out.size)
          clear BA
          have BA := BA'
          clear BA'
          have HR2 : Hid (Rd w2 (fun b => (wt1.alloc (.cells #[.slice none 0 0, .int .i64 0] 32)).heap.size ≤ b ∧ b < w2.heap.size) (dRowSS R0.tables) (.slice ya R0.tables.length yc)) := by first | exact hr2 | (simpa using hr2)
          clear hb hB hr2
          refine hK.out _ _ ?_ (fun hHeld => ?_)
          · (first | exact CE.out _ (HST.out _ BS.out) | exact CE.out _ (HST.out _ BS.out.drew))
          clear hK K
          try simp only [Act.put, tkS]
          refine tkB (i := 5) ?_
          refine tkB (i := 6) ?_
          refine tkB (i := 7) ?_
          refine tkR (i := 9) (fun K hK => ?_)
          have zc0 := cell_at (o := 0) (HZ.out _ BA.out) rfl
          have zf0 := frozen_at 0 (HZ.out _ BA.out)
          have zc1 := cell_at (o := 1) (HZ.out _ BA.out) rfl
          have zf1 := frozen_at 1 (HZ.out _ BA.out)
          go_simp
          clear zc0 zf0 zc1 zf1
          have hlo : wh7.heap.size ≤ wt1.heap.size := LO.out
          have BT : Hid (Below wh7.heap.size wh7 ((w2.setCell ⟨wt1.heap.size, 0, none⟩ (.slice ya R0.tables.length yc)).setCell ⟨wt1.heap.size, 1, none⟩ (.int .i64 R0.next))) := ((BS.out.setCell (by first | exact hlo | (show _ ≤ _; exact hlo)) _).setCell (by first | exact hlo | (show _ ≤ _; exact hlo)) _)
          clear BS hlo
          have BS := BT
          clear BT
          refine hK.out _ _ ?_ (fun hHeld => ?_)
          · (first | exact CE.out _ (HST.out _ BS.out) | exact CE.out _ (HST.out _ BS.out.drew))
          clear hK K
          try simp only [Act.put, tkS]
          refine tkB (i := 10) ?_
          refine wpAnyH_done (by kernel_rfl) ?_ _
          have HF := Lib.hid (HST.out _ BS.out)
          go_wp2_with fail
          go_meet
          exact ⟨ya, yc, _, rfl, rfl, HF.out, heap_set 1 _ (heap_set 0 _ (HZ.out _ BA.out)), (HR2.out.frm (F := (· = wt1.heap.size)) ((frm_set _ _ _ _).trans (frm_set _ _ _ _)) (fun b hb e => by have e' : b = wt1.heap.size := e; have h1 := hb.1; have h2 := LT0.out; omega)).mono (fun _ _ => trivial)⟩
      ·
        go_simp
        have LO : Hid (wh7.heap.size ≤ wt0.heap.size) := BS.out.size
        have BS' : Hid (Below wh7.heap.size wh7 (wt0.alloc (.cells #[.slice none 0 0, .int .i64 0] 32))) := BS.out.alloc BS.out.size _
        clear BS
        have BS := BS'
        clear BS'
        have BC0' : Hid (Below wt0.heap.size wt0 (wt0.alloc (.cells #[.slice none 0 0, .int .i64 0] 32))) := BC0.out.alloc BC0.out.size _
        clear BC0
        have BC0 := BC0'
        clear BC0'
        have HZ : Hid (∀ W, Below (wt0.alloc (.cells #[.slice none 0 0, .int .i64 0] 32)).heap.size (wt0.alloc (.cells #[.slice none 0 0, .int .i64 0] 32)) W → W.heap[wt0.heap.size]? = some (.cells #[.slice none 0 0, .int .i64 0] 32)) := fun W h => heap_keptD (heap_newD _ _) h
        have BA : Hid (Below (wt0.alloc (.cells #[.slice none 0 0, .int .i64 0] 32)).heap.size (wt0.alloc (.cells #[.slice none 0 0, .int .i64 0] 32)) (wt0.alloc (.cells #[.slice none 0 0, .int .i64 0] 32))) := Below.refl _ _
        refine hK.out _ _ ?_ (fun hHeld => ?_)
        · (first | exact CE.out _ (HST.out _ BS.out) | exact CE.out _ (HST.out _ BS.out.drew))
        clear hK K
        try simp only [Act.put, tkS]
        refine tkR (i := 3) (fun K hK => ?_)
        go_simp
        go_at_call 8
        refine (TO1.out _ (by first | exact HSX.out _ (HST.out _ BS.out) | exact HSX.out _ (HST.out _ BS.out.drew))).mono ?_
        rintro e wt1 ⟨p1_0, rfl, ho, hB, -⟩
        have hb : Below (wt0.alloc (.cells #[.slice none 0 0, .int .i64 0] 32)).heap.size (wt0.alloc (.cells #[.slice none 0 0, .int .i64 0] 32)) wt1 := by first | exact hB | exact (Below.refl _ _).drew.trans hB
        have BS' : Hid (Below wh7.heap.size wh7 wt1) := BS.out.trans (hb.mono BS.out.size)
        clear BS
        have BS := BS'
        clear BS'
        have BC0' : Hid (Below wt0.heap.size wt0 wt1) := BC0.out.trans (hb.mono BC0.out.size)
        clear BC0
        have BC0 := BC0'
        clear BC0'
        have BA' : Hid (Below (wt0.alloc (.cells #[.slice none 0 0, .int .i64 0] 32)).heap.size (wt0.alloc (.cells #[.slice none 0 0, .int .i64 0] 32)) wt1) := BA.out.trans (hb.mono BA.out.size)
        clear BA
        have BA := BA'
        clear BA'
        have RC1_0 : Hid (∀ W, Below wt1.heap.size wt1 W → Rd W (fun _ => True) (dRowSS x1.tables) (.slice (some ⟨p1_0, 0, none⟩) x1.tables.length x1.tables.length)) := fun W h => Rd.later ((Owns.one ho (j := 0) (by omega)).rd'.any) h
        have BC1 : Hid (Below wt1.heap.size wt1 wt1) := Below.refl _ _
        clear hb hB ho
        refine hK.out _ _ ?_ (fun hHeld => ?_)
        · (first | exact CE.out _ (HST.out _ BS.out) | exact CE.out _ (HST.out _ BS.out.drew))
        clear hK K
        try simp only [Act.put, tkS]
        refine tkR (i := 4) (fun K hK => ?_)
        go_simp
        have LT0 : Hid (wt0.heap.size < wt1.heap.size) := (Array.getElem?_eq_some_iff.1 (HZ.out _ BA.out)).1
        go_at_call 9
        refine (CI.out _ _ _ _ _ (by first | exact RC0_0.out _ BC0.out | exact RC0_0.out _ BC0.out.drew) (by first | exact RC1_0.out _ BC1.out | exact RC1_0.out _ BC1.out.drew)).mono ?_
        rintro e w2 ⟨ya, yc, rfl, hr2, hB⟩
        replace hr2 := Own.rd' hr2
        have hb : Below wt1.heap.size wt1 w2 := by first | exact hB | exact (Below.refl _ _).drew.trans hB
        have BS' : Hid (Below wh7.heap.size wh7 w2) := BS.out.trans (hb.mono BS.out.size)
        clear BS
        have BS := BS'
        clear BS'
        have BC0' : Hid (Below wt0.heap.size wt0 w2) := BC0.out.trans (hb.mono BC0.out.size)
        clear BC0
        have BC0 := BC0'
        clear BC0'
        have BA' : Hid (Below (wt0.alloc (.cells #[.slice none 0 0, .int .i64 0] 32)).heap.size (wt0.alloc (.cells #[.slice none 0 0, .int .i64 0] 32)) w2) := BA.out.trans (hb.mono BA.out.size)
        clear BA
        have BA := BA'
        clear BA'
        have BC1' : Hid (Below wt1.heap.size wt1 w2) := BC1.out.trans (hb.mono BC1.out.size)
        clear BC1
        have BC1 := BC1'
        clear BC1'
        have HR2 : Hid (Rd w2 (fun b => wt1.heap.size ≤ b ∧ b < w2.heap.size) (dRowSS R0.tables) (.slice ya R0.tables.length yc)) := by first | exact hr2 | (simpa using hr2)
        clear hb hB hr2
        refine hK.out _ _ ?_ (fun hHeld => ?_)
        · (first | exact CE.out _ (HST.out _ BS.out) | exact CE.out _ (HST.out _ BS.out.drew))
        clear hK K
        try simp only [Act.put, tkS]
        refine tkB (i := 5) ?_
        refine tkB (i := 6) ?_
        refine tkB (i := 7) ?_
        refine tkR (i := 9) (fun K hK => ?_)
        have zc0 := cell_at (o := 0) (HZ.out _ BA.out) rfl
        have zf0 := frozen_at 0 (HZ.out _ BA.out)
        have zc1 := cell_at (o := 1) (HZ.out _ BA.out) rfl
        have zf1 := frozen_at 1 (HZ.out _ BA.out)
        go_simp
        clear zc0 zf0 zc1 zf1
        have hlo : wh7.heap.size ≤ wt0.heap.size := LO.out
        have BT : Hid (Below wh7.heap.size wh7 ((w2.setCell ⟨wt0.heap.size, 0, none⟩ (.slice ya R0.tables.length yc)).setCell ⟨wt0.heap.size, 1, none⟩ (.int .i64 R0.next))) := ((BS.out.setCell (by first | exact hlo | (show _ ≤ _; exact hlo)) _).setCell (by first | exact hlo | (show _ ≤ _; exact hlo)) _)
        clear BS hlo
        have BS := BT
        clear BT
        refine hK.out _ _ ?_ (fun hHeld => ?_)
        · (first | exact CE.out _ (HST.out _ BS.out) | exact CE.out _ (HST.out _ BS.out.drew))
        clear hK K
        try simp only [Act.put, tkS]
        refine tkB (i := 10) ?_
        refine wpAnyH_done (by kernel_rfl) ?_ _
        have HF := Lib.hid (HST.out _ BS.out)
        go_wp2_with fail
        go_meet
        exact ⟨ya, yc, _, rfl, rfl, HF.out, heap_set 1 _ (heap_set 0 _ (HZ.out _ BA.out)), (HR2.out.frm (F := (· = wt0.heap.size)) ((frm_set _ _ _ _).trans (frm_set _ _ _ _)) (fun b hb e => by have e' : b = wt0.heap.size := e; have h1 := hb.1; have h2 := LT0.out; omega)).mono (fun _ _ => trivial)⟩
    ·
      go_simp
      have LO : Hid (wh7.heap.size ≤ wh7.heap.size) := BS.out.size
      have BS' : Hid (Below wh7.heap.size wh7 (wh7.alloc (.cells #[.slice none 0 0, .int .i64 0] 32))) := BS.out.alloc BS.out.size _
      clear BS
      have BS := BS'
      clear BS'
      have HZ : Hid (∀ W, Below (wh7.alloc (.cells #[.slice none 0 0, .int .i64 0] 32)).heap.size (wh7.alloc (.cells #[.slice none 0 0, .int .i64 0] 32)) W → W.heap[wh7.heap.size]? = some (.cells #[.slice none 0 0, .int .i64 0] 32)) := fun W h => heap_keptD (heap_newD _ _) h
      have BA : Hid (Below (wh7.alloc (.cells #[.slice none 0 0, .int .i64 0] 32)).heap.size (wh7.alloc (.cells #[.slice none 0 0, .int .i64 0] 32)) (wh7.alloc (.cells #[.slice none 0 0, .int .i64 0] 32))) := Below.refl _ _
      refine hK.out _ _ ?_ (fun hHeld => ?_)
      · (first | exact CE.out _ (HST.out _ BS.out) | exact CE.out _ (HST.out _ BS.out.drew))
      clear hK K
      try simp only [Act.put, tkS]
      refine tkR (i := 1) (fun K hK => ?_)
      go_simp
      go_at_call 7
      refine (TO0.out _ (by first | exact HSX.out _ (HST.out _ BS.out) | exact HSX.out _ (HST.out _ BS.out.drew))).mono ?_
      rintro e wt0 ⟨p0_0, rfl, ho, hB, -⟩
      have hb : Below (wh7.alloc (.cells #[.slice none 0 0, .int .i64 0] 32)).heap.size (wh7.alloc (.cells #[.slice none 0 0, .int .i64 0] 32)) wt0 := by first | exact hB | exact (Below.refl _ _).drew.trans hB
      have BS' : Hid (Below wh7.heap.size wh7 wt0) := BS.out.trans (hb.mono BS.out.size)
      clear BS
      have BS := BS'
      clear BS'
      have BA' : Hid (Below (wh7.alloc (.cells #[.slice none 0 0, .int .i64 0] 32)).heap.size (wh7.alloc (.cells #[.slice none 0 0, .int .i64 0] 32)) wt0) := BA.out.trans (hb.mono BA.out.size)
      clear BA
      have BA := BA'
      clear BA'
      have RC0_0 : Hid (∀ W, Below wt0.heap.size wt0 W → Rd W (fun _ => True) (dTableS x0.tables) (.slice (some ⟨p0_0, 0, none⟩) x0.tables.length x0.tables.length)) := fun W h => Rd.later ((Owns.one ho (j := 0) (by omega)).rd'.any) h
      have BC0 : Hid (Below wt0.heap.size wt0 wt0) := Below.refl _ _
      clear hb hB ho
      refine hK.out _ _ ?_ (fun hHeld => ?_)
      · (first | exact CE.out _ (HST.out _ BS.out) | exact CE.out _ (HST.out _ BS.out.drew))
      clear hK K
      try simp only [Act.put, tkS]
      refine tkR (i := 3) (fun K hK => ?_)
      go_simp
      go_at_call 8
      refine (TO1.out _ (by first | exact HSX.out _ (HST.out _ BS.out) | exact HSX.out _ (HST.out _ BS.out.drew))).mono ?_
      rintro e wt1 ⟨p1_0, rfl, ho, hB, -⟩
      have hb : Below wt0.heap.size wt0 wt1 := by first | exact hB | exact (Below.refl _ _).drew.trans hB
      have BS' : Hid (Below wh7.heap.size wh7 wt1) := BS.out.trans (hb.mono BS.out.size)
      clear BS
      have BS := BS'
      clear BS'
      have BA' : Hid (Below (wh7.alloc (.cells #[.slice none 0 0, .int .i64 0] 32)).heap.size (wh7.alloc (.cells #[.slice none 0 0, .int .i64 0] 32)) wt1) := BA.out.trans (hb.mono BA.out.size)
      clear BA
      have BA := BA'
      clear BA'
      have BC0' : Hid (Below wt0.heap.size wt0 wt1) := BC0.out.trans (hb.mono BC0.out.size)
      clear BC0
      have BC0 := BC0'
      clear BC0'
      have RC1_0 : Hid (∀ W, Below wt1.heap.size wt1 W → Rd W (fun _ => True) (dRowSS x1.tables) (.slice (some ⟨p1_0, 0, none⟩) x1.tables.length x1.tables.length)) := fun W h => Rd.later ((Owns.one ho (j := 0) (by omega)).rd'.any) h
      have BC1 : Hid (Below wt1.heap.size wt1 wt1) := Below.refl _ _
      clear hb hB ho
      refine hK.out _ _ ?_ (fun hHeld => ?_)
      · (first | exact CE.out _ (HST.out _ BS.out) | exact CE.out _ (HST.out _ BS.out.drew))
      clear hK K
      try simp only [Act.put, tkS]
      refine tkR (i := 4) (fun K hK => ?_)
      go_simp
      have LT0 : Hid (wh7.heap.size < wt1.heap.size) := (Array.getElem?_eq_some_iff.1 (HZ.out _ BA.out)).1
      go_at_call 9
      refine (CI.out _ _ _ _ _ (by first | exact RC0_0.out _ BC0.out | exact RC0_0.out _ BC0.out.drew) (by first | exact RC1_0.out _ BC1.out | exact RC1_0.out _ BC1.out.drew)).mono ?_
      rintro e w2 ⟨ya, yc, rfl, hr2, hB⟩
      replace hr2 := Own.rd' hr2
      have hb : Below wt1.heap.size wt1 w2 := by first | exact hB | exact (Below.refl _ _).drew.trans hB
      have BS' : Hid (Below wh7.heap.size wh7 w2) := BS.out.trans (hb.mono BS.out.size)
      clear BS
      have BS := BS'
      clear BS'
      have BA' : Hid (Below (wh7.alloc (.cells #[.slice none 0 0, .int .i64 0] 32)).heap.size (wh7.alloc (.cells #[.slice none 0 0, .int .i64 0] 32)) w2) := BA.out.trans (hb.mono BA.out.size)
      clear BA
      have BA := BA'
      clear BA'
      have BC0' : Hid (Below wt0.heap.size wt0 w2) := BC0.out.trans (hb.mono BC0.out.size)
      clear BC0
      have BC0 := BC0'
      clear BC0'
      have BC1' : Hid (Below wt1.heap.size wt1 w2) := BC1.out.trans (hb.mono BC1.out.size)
      clear BC1
      have BC1 := BC1'
      clear BC1'
      have HR2 : Hid (Rd w2 (fun b => wt1.heap.size ≤ b ∧ b < w2.heap.size) (dRowSS R0.tables) (.slice ya R0.tables.length yc)) := by first | exact hr2 | (simpa using hr2)
      clear hb hB hr2
      refine hK.out _ _ ?_ (fun hHeld => ?_)
      · (first | exact CE.out _ (HST.out _ BS.out) | exact CE.out _ (HST.out _ BS.out.drew))
      clear hK K
      try simp only [Act.put, tkS]
      refine tkB (i := 5) ?_
      refine tkB (i := 6) ?_
      refine tkB (i := 7) ?_
      refine tkR (i := 9) (fun K hK => ?_)
      have zc0 := cell_at (o := 0) (HZ.out _ BA.out) rfl
      have zf0 := frozen_at 0 (HZ.out _ BA.out)
      have zc1 := cell_at (o := 1) (HZ.out _ BA.out) rfl
      have zf1 := frozen_at 1 (HZ.out _ BA.out)
      go_simp
      clear zc0 zf0 zc1 zf1
      have hlo : wh7.heap.size ≤ wh7.heap.size := LO.out
      have BT : Hid (Below wh7.heap.size wh7 ((w2.setCell ⟨wh7.heap.size, 0, none⟩ (.slice ya R0.tables.length yc)).setCell ⟨wh7.heap.size, 1, none⟩ (.int .i64 R0.next))) := ((BS.out.setCell (by first | exact hlo | (show _ ≤ _; exact hlo)) _).setCell (by first | exact hlo | (show _ ≤ _; exact hlo)) _)
      clear BS hlo
      have BS := BT
      clear BT
      refine hK.out _ _ ?_ (fun hHeld => ?_)
      · (first | exact CE.out _ (HST.out _ BS.out) | exact CE.out _ (HST.out _ BS.out.drew))
      clear hK K
      try simp only [Act.put, tkS]
      refine tkB (i := 10) ?_
      refine wpAnyH_done (by kernel_rfl) ?_ _
      have HF := Lib.hid (HST.out _ BS.out)
      go_wp2_with fail
      go_meet
      exact ⟨ya, yc, _, rfl, rfl, HF.out, heap_set 1 _ (heap_set 0 _ (HZ.out _ BA.out)), (HR2.out.frm (F := (· = wh7.heap.size)) ((frm_set _ _ _ _).trans (frm_set _ _ _ _)) (fun b hb e => by have e' : b = wh7.heap.size := e; have h1 := hb.1; have h2 := LT0.out; omega)).mono (fun _ _ => trivial)⟩
  obtain ⟨ya, yc, b1, rfl, rfl, HCUT⟩ := hcut
  have N9 := Lib.hid HCUT.out.1
  have BH := Lib.hid HCUT.out.2
  clear HCUT HST CE HSX
  have f_arg0_0 := cell_at (o := 0) N9.out.2.1 rfl
  have f_arg1_0 := cell_at (o := 0) N9.out.2.2.1 rfl
  have f_arg1_1 := cell_at (o := 1) N9.out.2.2.1 rfl
  have f_w0_0 := cell_at (o := 0) N9.out.2.2.2.1 rfl
  have f_w0_1 := cell_at (o := 1) N9.out.2.2.2.1 rfl
  have f_x0_0 := cell_at (o := 0) N9.out.2.2.2.2.2.1 rfl
  have f_x1_0 := cell_at (o := 0) N9.out.2.2.2.2.2.2.2.1 rfl
  have f_x1_1 := cell_at (o := 1) N9.out.2.2.2.2.2.2.2.1 rfl
  have f_g_0 := cell_at (o := 0) N9.out.2.2.2.2.2.2.2.2.2.1 rfl
  have f_g_1 := cell_at (o := 1) N9.out.2.2.2.2.2.2.2.2.2.1 rfl
  have h_0 := cell_at (o := 0) BH.out.1 rfl
  have h_1 := cell_at (o := 1) BH.out.1 rfl
  go_wp2_with fail
  refine (EQR.out _ _ _ _ _ BH.out.2 (Rd.any (N9.out.2.2.2.2.1))).mono ?_
  rintro e wv ⟨rfl, hB⟩
  have N10 := Lib.hid (TGL.out _ _ N9.out hB)
  clear f_arg0_0 f_arg1_0 f_arg1_1 f_w0_0 f_w0_1 f_x0_0 f_x1_0 f_x1_1 f_g_0 f_g_1
  clear hB N9
  have f_arg0_0 := cell_at (o := 0) N10.out.2.1 rfl
  have f_arg1_0 := cell_at (o := 0) N10.out.2.2.1 rfl
  have f_arg1_1 := cell_at (o := 1) N10.out.2.2.1 rfl
  have f_w0_0 := cell_at (o := 0) N10.out.2.2.2.1 rfl
  have f_w0_1 := cell_at (o := 1) N10.out.2.2.2.1 rfl
  have f_x0_0 := cell_at (o := 0) N10.out.2.2.2.2.2.1 rfl
  have f_x1_0 := cell_at (o := 0) N10.out.2.2.2.2.2.2.2.1 rfl
  have f_x1_1 := cell_at (o := 1) N10.out.2.2.2.2.2.2.2.1 rfl
  have f_g_0 := cell_at (o := 0) N10.out.2.2.2.2.2.2.2.2.2.1 rfl
  have f_g_1 := cell_at (o := 1) N10.out.2.2.2.2.2.2.2.2.2.1 rfl
  clear h_0 h_1
  go_wp2_with fail
  refine (HD.out _ (Rd.any (Own.rd' (N10.out.2.2.2.2.2.2.2.2.2.2)))).mono ?_
  rintro e wh10 ⟨rfl, hB⟩
  have N11 := Lib.hid (TGL.out _ _ N10.out hB)
  clear f_arg0_0 f_arg1_0 f_arg1_1 f_w0_0 f_w0_1 f_x0_0 f_x1_0 f_x1_1 f_g_0 f_g_1
  clear hB N10
  have f_arg0_0 := cell_at (o := 0) N11.out.2.1 rfl
  have f_arg1_0 := cell_at (o := 0) N11.out.2.2.1 rfl
  have f_arg1_1 := cell_at (o := 1) N11.out.2.2.1 rfl
  have f_w0_0 := cell_at (o := 0) N11.out.2.2.2.1 rfl
  have f_w0_1 := cell_at (o := 1) N11.out.2.2.2.1 rfl
  have f_x0_0 := cell_at (o := 0) N11.out.2.2.2.2.2.1 rfl
  have f_x1_0 := cell_at (o := 0) N11.out.2.2.2.2.2.2.2.1 rfl
  have f_x1_1 := cell_at (o := 1) N11.out.2.2.2.2.2.2.2.1 rfl
  have f_g_0 := cell_at (o := 0) N11.out.2.2.2.2.2.2.2.2.2.1 rfl
  have f_g_1 := cell_at (o := 1) N11.out.2.2.2.2.2.2.2.2.2.1 rfl
  go_wp2_with fail
  go_ret
  exact ⟨rfl, N11.out.1⟩
end Go.Proofs.YtngbhifafdbpkaaGreat
