import Derived.Test.YtgegjniilocmnaaDf2
import Derived.Test.YtgegjniilocmnaaDk1
import Derived.Deep.RegionHeld3
import Derived.Deep.CutRange
namespace Go.Proofs.Ytgegjniilocmnaa
open Go.RowKit
set_option linter.unusedSimpArgs false
set_option maxRecDepth 100000 in
set_option maxHeartbeats 12800000 in
theorem lawChangeKind (x0 : ChV) (a0_3 : Option Addr) (c0_3 : Nat) (a0_5 : Option Addr) (c0_5 : Nat) (w : World) (l0_3 : (dAtomSS x0.ocs).le maxLen) (l0_5 : (dAtomSS x0.ncs).le maxLen) (l0_0 : iOK x0.tab) (l0_1 : iOK x0.cid) (l0_2 : iOK x0.oid) (l0_4 : iOK x0.nid) (r0_3 : Rd w (· < w.heap.size) (dAtomSS x0.ocs) (.slice a0_3 x0.ocs.length c0_3)) (r0_5 : Rd w (· < w.heap.size) (dAtomSS x0.ncs) (.slice a0_5 x0.ncs.length c0_5)) :
    Calls Try.prog 3 #[.agg #[.int .i64 x0.tab, .int .i64 x0.cid, .int .i64 x0.oid, .slice a0_3 x0.ocs.length c0_3, .int .i64 x0.nid, .slice a0_5 x0.ncs.length c0_5]] w fun e w' => e = .returned (.bool true) ∧ Below w.heap.size w w' := by
  have HL0_3 := Lib.hid l0_3
  have HL0_5 := Lib.hid l0_5
  have HO0 : Hid (∀ j, j < 6 → (dChange x0 j).le maxLen) := fun j hj => by
    rcases (by omega : j = 0 ∨ j = 1 ∨ j = 2 ∨ j = 3 ∨ j = 4 ∨ j = 5) with rfl | rfl | rfl | rfl | rfl | rfl
    · exact l0_0
    · exact l0_1
    · exact l0_2
    · exact l0_3
    · exact l0_4
    · exact l0_5
  have RA0_3 : Hid (∀ W, Below w.heap.size w W → Rd W (· < w.heap.size) (dAtomSS x0.ocs) (.slice a0_3 x0.ocs.length c0_3)) := fun W h => Rd.same (fun b hb => h.block b hb) (fun _ h => h) _ _ r0_3
  have RA0_5 : Hid (∀ W, Below w.heap.size w W → Rd W (· < w.heap.size) (dAtomSS x0.ncs) (.slice a0_5 x0.ncs.length c0_5)) := fun W h => Rd.same (fun b hb => h.block b hb) (fun _ h => h) _ _ r0_5
  have ALAT : Hid (∀ W W', (Below w.heap.size w W ∧ W.heap[w.heap.size]? = some (.cells #[.int .i64 x0.tab, .int .i64 x0.cid, .int .i64 x0.oid, .slice a0_3 x0.ocs.length c0_3, .int .i64 x0.nid, .slice a0_5 x0.ncs.length c0_5] 26)) → Below W.heap.size W W' → (Below w.heap.size w W' ∧ W'.heap[w.heap.size]? = some (.cells #[.int .i64 x0.tab, .int .i64 x0.cid, .int .i64 x0.oid, .slice a0_3 x0.ocs.length c0_3, .int .i64 x0.nid, .slice a0_5 x0.ncs.length c0_5] 26))) := fun W W' h hB => ⟨h.1.trans (hB.mono h.1.size), heap_keptD h.2 hB⟩
  have A0 : Hid (Below w.heap.size w (w.alloc (.cells #[.int .i64 x0.tab, .int .i64 x0.cid, .int .i64 x0.oid, .slice a0_3 x0.ocs.length c0_3, .int .i64 x0.nid, .slice a0_5 x0.ncs.length c0_5] 26)) ∧ (w.alloc (.cells #[.int .i64 x0.tab, .int .i64 x0.cid, .int .i64 x0.oid, .slice a0_3 x0.ocs.length c0_3, .int .i64 x0.nid, .slice a0_5 x0.ncs.length c0_5] 26)).heap[w.heap.size]? = some (.cells #[.int .i64 x0.tab, .int .i64 x0.cid, .int .i64 x0.oid, .slice a0_3 x0.ocs.length c0_3, .int .i64 x0.nid, .slice a0_5 x0.ncs.length c0_5] 26)) := by
    exact ⟨below_allocD _ _, heap_newD _ _⟩
  clear l0_3 r0_3 l0_5 r0_5 l0_0 l0_1 l0_2 l0_4
  have x0_0 := cell_at (o := 0) A0.out.2 rfl
  have x0_1 := cell_at (o := 1) A0.out.2 rfl
  have x0_2 := cell_at (o := 2) A0.out.2 rfl
  have x0_3 := cell_at (o := 3) A0.out.2 rfl
  have x0_4 := cell_at (o := 4) A0.out.2 rfl
  have x0_5 := cell_at (o := 5) A0.out.2 rfl
  go_enter Try.func3, Try.ntmps3
  go_wp2_with fail
  have bl : Hid ((0 : Int) ≤ 1048576 ∧ (1048576 : Int) ≤ 1048576) := by show _ ∧ _; omega
  refine (szDChange x0 a0_3 c0_3 a0_5 c0_5 1048576 _ _ bl.out.1 bl.out.2 HO0.out (RA0_3.out _ A0.out.1) (RA0_5.out _ A0.out.1)).mono ?_
  rintro e ws0 ⟨rfl, hB⟩
  have AS0 := Lib.hid (ALAT.out _ _ A0.out hB)
  clear hB A0 x0_0 x0_1 x0_2 x0_3 x0_4 x0_5
  have x0_0 := cell_at (o := 0) AS0.out.2 rfl
  have x0_1 := cell_at (o := 1) AS0.out.2 rfl
  have x0_2 := cell_at (o := 2) AS0.out.2 rfl
  have x0_3 := cell_at (o := 3) AS0.out.2 rfl
  have x0_4 := cell_at (o := 4) AS0.out.2 rfl
  have x0_5 := cell_at (o := 5) AS0.out.2 rfl
  by_cases hz0 : (1048576 : Int) - (szT 6 (dChange x0) : Int) < 0
  case pos =>
    rw [less_no hz0]
    go_wp2_with fail
    go_ret
    exact ⟨rfl, AS0.out.1⟩
  rw [less_yes (by omega)]
  obtain ⟨L0, hL0⟩ : ∃ L0 : Int, L0 = 1048576 - (szT 6 (dChange x0) : Int) := ⟨_, rfl⟩
  rw [← hL0]
  have dL0 : decide (L0 < 0) = false := decide_eq_false (by omega)
  have HZ0 : Hid (szT 6 (dChange x0) ≤ 1048576) := by have := bl.out; show _ ≤ _; omega
  have b2 : Hid (0 ≤ L0 ∧ L0 ≤ 1048576) := by have := bl.out; show _ ∧ _; omega
  clear hz0 hL0 bl
  have bl := b2
  clear b2
  go_wp2_with fail
  have HK0 : Hid (∀ j, j < 6 → (dChange x0 j).le 1048576) := fun j hj => D.le_of_sz _ (HO0.out j hj) (Nat.le_trans (sumN_le (g := fun j => (dChange x0 j).sz) hj) HZ0.out)
  have TO0 : Hid (∀ W, (Below w.heap.size w W ∧ W.heap[w.heap.size]? = some (.cells #[.int .i64 x0.tab, .int .i64 x0.cid, .int .i64 x0.oid, .slice a0_3 x0.ocs.length c0_3, .int .i64 x0.nid, .slice a0_5 x0.ncs.length c0_5] 26)) → Calls Try.prog 6 #[.agg #[.int .i64 x0.tab, .int .i64 x0.cid, .int .i64 x0.oid, .slice a0_3 x0.ocs.length c0_3, .int .i64 x0.nid, .slice a0_5 x0.ncs.length c0_5]] W fun e w' => ∃ p3 : Nat, ∃ p5 : Nat, e = .returned (.agg #[.int .i64 x0.tab, .int .i64 x0.cid, .int .i64 x0.oid, .slice (some ⟨p3, 0, none⟩) x0.ocs.length x0.ocs.length, .int .i64 x0.nid, .slice (some ⟨p5, 0, none⟩) x0.ncs.length x0.ncs.length]) ∧ Owns w' 6 (dChange x0) (vat [.int .i64 x0.tab, .int .i64 x0.cid, .int .i64 x0.oid, .slice (some ⟨p3, 0, none⟩) x0.ocs.length x0.ocs.length, .int .i64 x0.nid, .slice (some ⟨p5, 0, none⟩) x0.ncs.length x0.ncs.length]) (fun c => W.heap.size ≤ c ∧ c < w'.heap.size) ∧ Below W.heap.size W w' ∧ (Below w.heap.size w w' ∧ w'.heap[w.heap.size]? = some (.cells #[.int .i64 x0.tab, .int .i64 x0.cid, .int .i64 x0.oid, .slice a0_3 x0.ocs.length c0_3, .int .i64 x0.nid, .slice a0_5 x0.ncs.length c0_5] 26))) := fun W h => (toDChange x0 a0_3 c0_3 a0_5 c0_5 _ W HK0.out (RA0_3.out W h.1) (RA0_5.out W h.1)).mono (fun e w' ⟨p3, p5, he, ho, hB⟩ => ⟨p3, p5, he, ho, hB, ALAT.out _ _ h hB⟩)
  have CS : Hid (∀ (W : World) (b0_3 : Option Addr) (e0_3 : Nat) (b0_5 : Option Addr) (e0_5 : Nat), Rd W (fun _ => True) (dAtomSS x0.ocs) (.slice b0_3 x0.ocs.length e0_3) → Rd W (fun _ => True) (dAtomSS x0.ncs) (.slice b0_5 x0.ncs.length e0_5) → Calls Try.prog 5 #[.agg #[.int .i64 x0.tab, .int .i64 x0.cid, .int .i64 x0.oid, .slice b0_3 x0.ocs.length e0_3, .int .i64 x0.nid, .slice b0_5 x0.ncs.length e0_5]] W fun e w' => e = .returned (.tuple #[.int .i64 ((ckR x0).1), .int .i64 ((ckR x0).2)]) ∧ Below W.heap.size W w') := fun W b0_3 e0_3 b0_5 e0_5 h0_3 h0_5 => ckS x0 b0_3 e0_3 b0_5 e0_5 W
  have CI : Hid (∀ (W : World) (b0_3 : Option Addr) (e0_3 : Nat) (b0_5 : Option Addr) (e0_5 : Nat), Rd W (fun _ => True) (dAtomSS x0.ocs) (.slice b0_3 x0.ocs.length e0_3) → Rd W (fun _ => True) (dAtomSS x0.ncs) (.slice b0_5 x0.ncs.length e0_5) → Calls Try.prog 7 #[.agg #[.int .i64 x0.tab, .int .i64 x0.cid, .int .i64 x0.oid, .slice b0_3 x0.ocs.length e0_3, .int .i64 x0.nid, .slice b0_5 x0.ncs.length e0_5]] W fun e w' => e = .returned (.tuple #[.int .i64 ((ckR x0).1), .int .i64 ((ckR x0).2)]) ∧ Below W.heap.size W w') := fun W b0_3 e0_3 b0_5 e0_5 h0_3 h0_5 => ckI x0 b0_3 e0_3 b0_5 e0_5 W
  have nq0 := bne_self_eq_false ((ckR x0).1)
  generalize ((ckR x0).1) = R0 at *
  have nq1 := bne_self_eq_false ((ckR x0).2)
  generalize ((ckR x0).2) = R1 at *
  have EQ0 : Hid (∀ (W : World) (b3 : Option Addr) (e3 : Nat) (f3 : Option Addr) (g3 : Nat) (b5 : Option Addr) (e5 : Nat) (f5 : Option Addr) (g5 : Nat), Rd W (fun _ => True) (dAtomSS x0.ocs) (.slice b3 x0.ocs.length e3) → Rd W (fun _ => True) (dAtomSS x0.ncs) (.slice b5 x0.ncs.length e5) → Rd W (fun _ => True) (dAtomSS x0.ocs) (.slice f3 x0.ocs.length g3) → Rd W (fun _ => True) (dAtomSS x0.ncs) (.slice f5 x0.ncs.length g5) → Calls Try.prog 8 #[.agg #[.int .i64 x0.tab, .int .i64 x0.cid, .int .i64 x0.oid, .slice b3 x0.ocs.length e3, .int .i64 x0.nid, .slice b5 x0.ncs.length e5], .agg #[.int .i64 x0.tab, .int .i64 x0.cid, .int .i64 x0.oid, .slice f3 x0.ocs.length g3, .int .i64 x0.nid, .slice f5 x0.ncs.length g5]] W fun e w' => e = .returned (.bool true) ∧ Below W.heap.size W w') := fun W b3 e3 f3 g3 b5 e5 f5 g5 h3 h5 i3 i5 => eqDChange x0 b3 e3 b5 e5 f3 g3 f5 g5 _ _ W HO0.out h3 h5 i3 i5
  refine (TO0.out _ AS0.out).mono ?_
  rintro e w1 ⟨p0_3, p0_5, rfl, ho1, hB1, hA1⟩
  have RC0_3 : Hid (Rd _ (fun _ => True) (dAtomSS x0.ocs) (.slice (some ⟨p0_3, 0, none⟩) x0.ocs.length x0.ocs.length)) := (Owns.one ho1 (j := 3) (by omega)).rd'.any
  have RC0_5 : Hid (Rd _ (fun _ => True) (dAtomSS x0.ncs) (.slice (some ⟨p0_5, 0, none⟩) x0.ncs.length x0.ncs.length)) := (Owns.one ho1 (j := 5) (by omega)).rd'.any
  have A1 := Lib.hid hA1
  clear ho1 hB1 hA1 x0_0 x0_1 x0_2 x0_3 x0_4 x0_5
  have x0_0 := cell_at (o := 0) A1.out.2 rfl
  have x0_1 := cell_at (o := 1) A1.out.2 rfl
  have x0_2 := cell_at (o := 2) A1.out.2 rfl
  have x0_3 := cell_at (o := 3) A1.out.2 rfl
  have x0_4 := cell_at (o := 4) A1.out.2 rfl
  have x0_5 := cell_at (o := 5) A1.out.2 rfl
  go_wp2_with fail
  refine (CS.out _ _ _ _ _ RC0_3.out RC0_5.out).mono ?_
  rintro e w2 ⟨rfl, hB2⟩
  have A2 := Lib.hid (ALAT.out _ _ A1.out hB2)
  clear hB2 A1 x0_0 x0_1 x0_2 x0_3 x0_4 x0_5 RC0_3 RC0_5
  have x0_0 := cell_at (o := 0) A2.out.2 rfl
  have x0_1 := cell_at (o := 1) A2.out.2 rfl
  have x0_2 := cell_at (o := 2) A2.out.2 rfl
  have x0_3 := cell_at (o := 3) A2.out.2 rfl
  have x0_4 := cell_at (o := 4) A2.out.2 rfl
  have x0_5 := cell_at (o := 5) A2.out.2 rfl
  go_wp2_with fail
  refine (TO0.out _ (by first | exact A2.out | exact ALAT.out _ _ A2.out (Below.refl _ _).drew)).mono ?_
  rintro e wx0 ⟨p0_3, p0_5, rfl, ho, hB, hA⟩
  have XS0L : Hid (∀ W W', (Below w.heap.size w W ∧ W.heap[w.heap.size]? = some (.cells #[.int .i64 x0.tab, .int .i64 x0.cid, .int .i64 x0.oid, .slice a0_3 x0.ocs.length c0_3, .int .i64 x0.nid, .slice a0_5 x0.ncs.length c0_5] 26) ∧ W.heap[wx0.heap.size]? = some (.cells #[.int .i64 x0.tab, .int .i64 x0.cid, .int .i64 x0.oid, .slice (some ⟨p0_3, 0, none⟩) x0.ocs.length x0.ocs.length, .int .i64 x0.nid, .slice (some ⟨p0_5, 0, none⟩) x0.ncs.length x0.ncs.length] 34) ∧ Rd W (fun _ => True) (dAtomSS x0.ocs) (.slice (some ⟨p0_3, 0, none⟩) x0.ocs.length x0.ocs.length) ∧ Rd W (fun _ => True) (dAtomSS x0.ncs) (.slice (some ⟨p0_5, 0, none⟩) x0.ncs.length x0.ncs.length)) → Below W.heap.size W W' → (Below w.heap.size w W' ∧ W'.heap[w.heap.size]? = some (.cells #[.int .i64 x0.tab, .int .i64 x0.cid, .int .i64 x0.oid, .slice a0_3 x0.ocs.length c0_3, .int .i64 x0.nid, .slice a0_5 x0.ncs.length c0_5] 26) ∧ W'.heap[wx0.heap.size]? = some (.cells #[.int .i64 x0.tab, .int .i64 x0.cid, .int .i64 x0.oid, .slice (some ⟨p0_3, 0, none⟩) x0.ocs.length x0.ocs.length, .int .i64 x0.nid, .slice (some ⟨p0_5, 0, none⟩) x0.ncs.length x0.ncs.length] 34) ∧ Rd W' (fun _ => True) (dAtomSS x0.ocs) (.slice (some ⟨p0_3, 0, none⟩) x0.ocs.length x0.ocs.length) ∧ Rd W' (fun _ => True) (dAtomSS x0.ncs) (.slice (some ⟨p0_5, 0, none⟩) x0.ncs.length x0.ncs.length))) := fun W W' h hB => ⟨h.1.trans (hB.mono h.1.size), heap_keptD h.2.1 hB, heap_keptD h.2.2.1 hB, h.2.2.2.1.later hB, h.2.2.2.2.later hB⟩
  have Y0 : Hid (Below w.heap.size w (wx0.alloc (.cells #[.int .i64 x0.tab, .int .i64 x0.cid, .int .i64 x0.oid, .slice (some ⟨p0_3, 0, none⟩) x0.ocs.length x0.ocs.length, .int .i64 x0.nid, .slice (some ⟨p0_5, 0, none⟩) x0.ncs.length x0.ncs.length] 34)) ∧ (wx0.alloc (.cells #[.int .i64 x0.tab, .int .i64 x0.cid, .int .i64 x0.oid, .slice (some ⟨p0_3, 0, none⟩) x0.ocs.length x0.ocs.length, .int .i64 x0.nid, .slice (some ⟨p0_5, 0, none⟩) x0.ncs.length x0.ncs.length] 34)).heap[w.heap.size]? = some (.cells #[.int .i64 x0.tab, .int .i64 x0.cid, .int .i64 x0.oid, .slice a0_3 x0.ocs.length c0_3, .int .i64 x0.nid, .slice a0_5 x0.ncs.length c0_5] 26) ∧ (wx0.alloc (.cells #[.int .i64 x0.tab, .int .i64 x0.cid, .int .i64 x0.oid, .slice (some ⟨p0_3, 0, none⟩) x0.ocs.length x0.ocs.length, .int .i64 x0.nid, .slice (some ⟨p0_5, 0, none⟩) x0.ncs.length x0.ncs.length] 34)).heap[wx0.heap.size]? = some (.cells #[.int .i64 x0.tab, .int .i64 x0.cid, .int .i64 x0.oid, .slice (some ⟨p0_3, 0, none⟩) x0.ocs.length x0.ocs.length, .int .i64 x0.nid, .slice (some ⟨p0_5, 0, none⟩) x0.ncs.length x0.ncs.length] 34) ∧ Rd (wx0.alloc (.cells #[.int .i64 x0.tab, .int .i64 x0.cid, .int .i64 x0.oid, .slice (some ⟨p0_3, 0, none⟩) x0.ocs.length x0.ocs.length, .int .i64 x0.nid, .slice (some ⟨p0_5, 0, none⟩) x0.ncs.length x0.ncs.length] 34)) (fun _ => True) (dAtomSS x0.ocs) (.slice (some ⟨p0_3, 0, none⟩) x0.ocs.length x0.ocs.length) ∧ Rd (wx0.alloc (.cells #[.int .i64 x0.tab, .int .i64 x0.cid, .int .i64 x0.oid, .slice (some ⟨p0_3, 0, none⟩) x0.ocs.length x0.ocs.length, .int .i64 x0.nid, .slice (some ⟨p0_5, 0, none⟩) x0.ncs.length x0.ncs.length] 34)) (fun _ => True) (dAtomSS x0.ncs) (.slice (some ⟨p0_5, 0, none⟩) x0.ncs.length x0.ncs.length)) := ⟨hA.1.trans ((below_allocD _ _).mono hA.1.size), heap_keptD hA.2 (below_allocD _ _), heap_newD _ _, Rd.later ((Owns.one ho (j := 3) (by omega)).rd'.any) (below_allocD _ _), Rd.later ((Owns.one ho (j := 5) (by omega)).rd'.any) (below_allocD _ _)⟩
  clear hB hA ho A2 x0_0 x0_1 x0_2 x0_3 x0_4 x0_5
  have x0_0 := cell_at (o := 0) Y0.out.2.1 rfl
  have x0_1 := cell_at (o := 1) Y0.out.2.1 rfl
  have x0_2 := cell_at (o := 2) Y0.out.2.1 rfl
  have x0_3 := cell_at (o := 3) Y0.out.2.1 rfl
  have x0_4 := cell_at (o := 4) Y0.out.2.1 rfl
  have x0_5 := cell_at (o := 5) Y0.out.2.1 rfl
  have y0_0 := cell_at (o := 0) Y0.out.2.2.1 rfl
  have y0_1 := cell_at (o := 1) Y0.out.2.2.1 rfl
  have y0_2 := cell_at (o := 2) Y0.out.2.2.1 rfl
  have y0_3 := cell_at (o := 3) Y0.out.2.2.1 rfl
  have y0_4 := cell_at (o := 4) Y0.out.2.2.1 rfl
  have y0_5 := cell_at (o := 5) Y0.out.2.2.1 rfl
  go_wp2_with fail
  refine (CI.out _ _ _ _ _ Y0.out.2.2.2.1 Y0.out.2.2.2.2).mono ?_
  rintro e wg ⟨rfl, hB⟩
  have Z := Lib.hid (XS0L.out _ _ Y0.out hB)
  clear hB Y0 x0_0 x0_1 x0_2 x0_3 x0_4 x0_5 y0_0 y0_1 y0_2 y0_3 y0_4 y0_5
  have x0_0 := cell_at (o := 0) Z.out.2.1 rfl
  have x0_1 := cell_at (o := 1) Z.out.2.1 rfl
  have x0_2 := cell_at (o := 2) Z.out.2.1 rfl
  have x0_3 := cell_at (o := 3) Z.out.2.1 rfl
  have x0_4 := cell_at (o := 4) Z.out.2.1 rfl
  have x0_5 := cell_at (o := 5) Z.out.2.1 rfl
  have y0_0 := cell_at (o := 0) Z.out.2.2.1 rfl
  have y0_1 := cell_at (o := 1) Z.out.2.2.1 rfl
  have y0_2 := cell_at (o := 2) Z.out.2.2.1 rfl
  have y0_3 := cell_at (o := 3) Z.out.2.2.1 rfl
  have y0_4 := cell_at (o := 4) Z.out.2.2.1 rfl
  have y0_5 := cell_at (o := 5) Z.out.2.2.1 rfl
  go_wp2_with fail
  have CE0 : Hid (∀ W, (Below w.heap.size w W ∧ W.heap[w.heap.size]? = some (.cells #[.int .i64 x0.tab, .int .i64 x0.cid, .int .i64 x0.oid, .slice a0_3 x0.ocs.length c0_3, .int .i64 x0.nid, .slice a0_5 x0.ncs.length c0_5] 26) ∧ W.heap[wx0.heap.size]? = some (.cells #[.int .i64 x0.tab, .int .i64 x0.cid, .int .i64 x0.oid, .slice (some ⟨p0_3, 0, none⟩) x0.ocs.length x0.ocs.length, .int .i64 x0.nid, .slice (some ⟨p0_5, 0, none⟩) x0.ncs.length x0.ncs.length] 34) ∧ Rd W (fun _ => True) (dAtomSS x0.ocs) (.slice (some ⟨p0_3, 0, none⟩) x0.ocs.length x0.ocs.length) ∧ Rd W (fun _ => True) (dAtomSS x0.ncs) (.slice (some ⟨p0_5, 0, none⟩) x0.ncs.length x0.ncs.length)) → (W.cell? ⟨w.heap.size, 0, none⟩ = some (.int .i64 x0.tab) ∧ W.cell? ⟨w.heap.size, 1, none⟩ = some (.int .i64 x0.cid) ∧ W.cell? ⟨w.heap.size, 2, none⟩ = some (.int .i64 x0.oid) ∧ W.cell? ⟨w.heap.size, 3, none⟩ = some (.slice a0_3 x0.ocs.length c0_3) ∧ W.cell? ⟨w.heap.size, 4, none⟩ = some (.int .i64 x0.nid) ∧ W.cell? ⟨w.heap.size, 5, none⟩ = some (.slice a0_5 x0.ncs.length c0_5) ∧ W.cell? ⟨wx0.heap.size, 0, none⟩ = some (.int .i64 x0.tab) ∧ W.cell? ⟨wx0.heap.size, 1, none⟩ = some (.int .i64 x0.cid) ∧ W.cell? ⟨wx0.heap.size, 2, none⟩ = some (.int .i64 x0.oid) ∧ W.cell? ⟨wx0.heap.size, 3, none⟩ = some (.slice (some ⟨p0_3, 0, none⟩) x0.ocs.length x0.ocs.length) ∧ W.cell? ⟨wx0.heap.size, 4, none⟩ = some (.int .i64 x0.nid) ∧ W.cell? ⟨wx0.heap.size, 5, none⟩ = some (.slice (some ⟨p0_5, 0, none⟩) x0.ncs.length x0.ncs.length))) := fun W h => ⟨cell_at (o := 0) h.2.1 rfl, cell_at (o := 1) h.2.1 rfl, cell_at (o := 2) h.2.1 rfl, cell_at (o := 3) h.2.1 rfl, cell_at (o := 4) h.2.1 rfl, cell_at (o := 5) h.2.1 rfl, cell_at (o := 0) h.2.2.1 rfl, cell_at (o := 1) h.2.2.1 rfl, cell_at (o := 2) h.2.2.1 rfl, cell_at (o := 3) h.2.2.1 rfl, cell_at (o := 4) h.2.2.1 rfl, cell_at (o := 5) h.2.2.1 rfl⟩
  have hx := Z.out
  clear Z
  have XA : Hid (∀ W, (Below w.heap.size w W ∧ W.heap[w.heap.size]? = some (.cells #[.int .i64 x0.tab, .int .i64 x0.cid, .int .i64 x0.oid, .slice a0_3 x0.ocs.length c0_3, .int .i64 x0.nid, .slice a0_5 x0.ncs.length c0_5] 26) ∧ W.heap[wx0.heap.size]? = some (.cells #[.int .i64 x0.tab, .int .i64 x0.cid, .int .i64 x0.oid, .slice (some ⟨p0_3, 0, none⟩) x0.ocs.length x0.ocs.length, .int .i64 x0.nid, .slice (some ⟨p0_5, 0, none⟩) x0.ncs.length x0.ncs.length] 34) ∧ Rd W (fun _ => True) (dAtomSS x0.ocs) (.slice (some ⟨p0_3, 0, none⟩) x0.ocs.length x0.ocs.length) ∧ Rd W (fun _ => True) (dAtomSS x0.ncs) (.slice (some ⟨p0_5, 0, none⟩) x0.ncs.length x0.ncs.length)) → (Below w.heap.size w W ∧ W.heap[w.heap.size]? = some (.cells #[.int .i64 x0.tab, .int .i64 x0.cid, .int .i64 x0.oid, .slice a0_3 x0.ocs.length c0_3, .int .i64 x0.nid, .slice a0_5 x0.ncs.length c0_5] 26))) := fun W h => ⟨h.1, h.2.1⟩
  refine wp_region_held_drew (S := (fun W => W.cell? ⟨w.heap.size, 0, none⟩ = some (.int .i64 x0.tab) ∧ W.cell? ⟨w.heap.size, 1, none⟩ = some (.int .i64 x0.cid) ∧ W.cell? ⟨w.heap.size, 2, none⟩ = some (.int .i64 x0.oid) ∧ W.cell? ⟨w.heap.size, 3, none⟩ = some (.slice a0_3 x0.ocs.length c0_3) ∧ W.cell? ⟨w.heap.size, 4, none⟩ = some (.int .i64 x0.nid) ∧ W.cell? ⟨w.heap.size, 5, none⟩ = some (.slice a0_5 x0.ncs.length c0_5) ∧ W.cell? ⟨wx0.heap.size, 0, none⟩ = some (.int .i64 x0.tab) ∧ W.cell? ⟨wx0.heap.size, 1, none⟩ = some (.int .i64 x0.cid) ∧ W.cell? ⟨wx0.heap.size, 2, none⟩ = some (.int .i64 x0.oid) ∧ W.cell? ⟨wx0.heap.size, 3, none⟩ = some (.slice (some ⟨p0_3, 0, none⟩) x0.ocs.length x0.ocs.length) ∧ W.cell? ⟨wx0.heap.size, 4, none⟩ = some (.int .i64 x0.nid) ∧ W.cell? ⟨wx0.heap.size, 5, none⟩ = some (.slice (some ⟨p0_5, 0, none⟩) x0.ncs.length x0.ncs.length))) (by kernel_rfl) ?_ (fun hHeld => ?_)
  · (first | exact CE0.out _ hx | exact CE0.out _ (XS0L.out _ _ hx (Below.refl _ _).drew))
  refine wpAnyH_take (i := 0) (v := ?_) rfl (by kernel_rfl) (by kernel_rfl) (by kernel_rfl) (fun _ _ _ h => h) (Or.inl ⟨by kernel_rfl, ?_⟩) (by assumption) ?_
  rotate_left
  · (intro wS hSw; (try dsimp only at hSw); go_simp <;> with_reducible rfl)
  try simp only [Act.put, List.getElem_toArray, List.getElem_cons_succ, List.getElem_cons_zero, List.setIfInBounds_toArray, List.set_cons_zero, List.set_cons_succ]
  refine wpAnyH_take (i := 1) (v := ?_) rfl (by kernel_rfl) (by kernel_rfl) (by kernel_rfl) (fun _ _ _ h => h) (Or.inl ⟨by kernel_rfl, ?_⟩) (by assumption) ?_
  rotate_left
  · (intro wS hSw; (try dsimp only at hSw); go_simp <;> with_reducible rfl)
  try simp only [Act.put, List.getElem_toArray, List.getElem_cons_succ, List.getElem_cons_zero, List.setIfInBounds_toArray, List.set_cons_zero, List.set_cons_succ]
  refine wpAnyH_ready (rs := [2]) (by kernel_rfl) (by simp) (AllReadyH.cons rfl (fun K hK => ?_) AllReadyH.nil)
  go_simp
  (go_at_call 6; refine (TO0.out _ (by first | exact XA.out _ hx | exact XA.out _ (XS0L.out _ _ hx (Below.refl _ _).drew))).mono ?_; rintro e we0 ⟨s0_3, s0_5, rfl, ho, hB, _⟩; have h2 : Below w.heap.size w we0 ∧ we0.heap[w.heap.size]? = some (.cells #[.int .i64 x0.tab, .int .i64 x0.cid, .int .i64 x0.oid, .slice a0_3 x0.ocs.length c0_3, .int .i64 x0.nid, .slice a0_5 x0.ncs.length c0_5] 26) ∧ we0.heap[wx0.heap.size]? = some (.cells #[.int .i64 x0.tab, .int .i64 x0.cid, .int .i64 x0.oid, .slice (some ⟨p0_3, 0, none⟩) x0.ocs.length x0.ocs.length, .int .i64 x0.nid, .slice (some ⟨p0_5, 0, none⟩) x0.ncs.length x0.ncs.length] 34) ∧ Rd we0 (fun _ => True) (dAtomSS x0.ocs) (.slice (some ⟨p0_3, 0, none⟩) x0.ocs.length x0.ocs.length) ∧ Rd we0 (fun _ => True) (dAtomSS x0.ncs) (.slice (some ⟨p0_5, 0, none⟩) x0.ncs.length x0.ncs.length) := (by first | exact XS0L.out _ _ hx hB | exact XS0L.out _ _ (XS0L.out _ _ hx (Below.refl _ _).drew) hB); clear hx; have hx := h2; clear h2; have RE0_3 : Hid (Rd _ (fun _ => True) (dAtomSS x0.ocs) (.slice (some ⟨s0_3, 0, none⟩) x0.ocs.length x0.ocs.length)) := (Owns.one ho (j := 3) (by omega)).rd'.any; have RE0_5 : Hid (Rd _ (fun _ => True) (dAtomSS x0.ncs) (.slice (some ⟨s0_5, 0, none⟩) x0.ncs.length x0.ncs.length)) := (Owns.one ho (j := 5) (by omega)).rd'.any; clear hB ho)
  refine hK.out _ _ ?_ (fun hHeld => ?_)
  · (first | exact CE0.out _ hx | exact CE0.out _ (XS0L.out _ _ hx (Below.refl _ _).drew))
  clear hK K
  try simp only [Act.put, List.getElem_toArray, List.getElem_cons_succ, List.getElem_cons_zero, List.setIfInBounds_toArray, List.set_cons_zero, List.set_cons_succ]
  refine wpAnyH_ready (rs := [3]) (by kernel_rfl) (by simp) (AllReadyH.cons rfl (fun K hK => ?_) AllReadyH.nil)
  go_simp
  (go_at_call 8; refine (EQ0.out _ _ _ _ _ _ _ _ _ (by first | exact hx.2.2.2.1 | exact Rd.later hx.2.2.2.1 (Below.refl _ _).drew) (by first | exact hx.2.2.2.2 | exact Rd.later hx.2.2.2.2 (Below.refl _ _).drew) (by first | exact RE0_3.out | exact Rd.later RE0_3.out (Below.refl _ _).drew) (by first | exact RE0_5.out | exact Rd.later RE0_5.out (Below.refl _ _).drew)).mono ?_; rintro e wf0 ⟨rfl, hB⟩; have h2 : Below w.heap.size w wf0 ∧ wf0.heap[w.heap.size]? = some (.cells #[.int .i64 x0.tab, .int .i64 x0.cid, .int .i64 x0.oid, .slice a0_3 x0.ocs.length c0_3, .int .i64 x0.nid, .slice a0_5 x0.ncs.length c0_5] 26) ∧ wf0.heap[wx0.heap.size]? = some (.cells #[.int .i64 x0.tab, .int .i64 x0.cid, .int .i64 x0.oid, .slice (some ⟨p0_3, 0, none⟩) x0.ocs.length x0.ocs.length, .int .i64 x0.nid, .slice (some ⟨p0_5, 0, none⟩) x0.ncs.length x0.ncs.length] 34) ∧ Rd wf0 (fun _ => True) (dAtomSS x0.ocs) (.slice (some ⟨p0_3, 0, none⟩) x0.ocs.length x0.ocs.length) ∧ Rd wf0 (fun _ => True) (dAtomSS x0.ncs) (.slice (some ⟨p0_5, 0, none⟩) x0.ncs.length x0.ncs.length) := (by first | exact XS0L.out _ _ hx hB | exact XS0L.out _ _ (XS0L.out _ _ hx (Below.refl _ _).drew) hB); clear hx hB; have hx := h2; clear h2)
  refine hK.out _ _ ?_ (fun hHeld => ?_)
  · (first | exact CE0.out _ hx | exact CE0.out _ (XS0L.out _ _ hx (Below.refl _ _).drew))
  clear hK K
  try simp only [Act.put, List.getElem_toArray, List.getElem_cons_succ, List.getElem_cons_zero, List.setIfInBounds_toArray, List.set_cons_zero, List.set_cons_succ]
  refine wpAnyH_take (i := 4) (v := ?_) rfl (by kernel_rfl) (by kernel_rfl) (by kernel_rfl) (fun _ _ _ h => h) (Or.inl ⟨by kernel_rfl, ?_⟩) (by assumption) ?_
  rotate_left
  · (intro wS hSw; (try dsimp only at hSw); go_simp <;> with_reducible rfl)
  try simp only [Act.put, List.getElem_toArray, List.getElem_cons_succ, List.getElem_cons_zero, List.setIfInBounds_toArray, List.set_cons_zero, List.set_cons_succ]
  refine wpAnyH_done (by kernel_rfl) ?_ _
  clear x0_0 x0_1 x0_2 x0_3 x0_4 x0_5 y0_0 y0_1 y0_2 y0_3 y0_4 y0_5 RE0_3 RE0_5
  go_wp2_with fail
  go_ret
  exact ⟨rfl, by first | exact hx.1 | exact hx.1.drew⟩
end Go.Proofs.Ytgegjniilocmnaa
