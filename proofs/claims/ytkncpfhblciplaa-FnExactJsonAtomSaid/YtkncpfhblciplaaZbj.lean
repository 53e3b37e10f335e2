import Derived.Test.YtkncpfhblciplaaZbg
import Derived.Test.YtkncpfhblciplaaZbi
namespace Go.Proofs.Ytkncpfhblciplaa
open Go.RowKit
set_option linter.unusedSimpArgs false
theorem RJ.up {W W' : World} {j : J} {cs : List Value} (h : RJ W (· < W.heap.size) j cs) (hB : Below W.heap.size W W') : RJ W' (· < W'.heap.size) j cs := RJ.same (fun b hb => hB.block b hb) (fun _ hb => Nat.lt_of_lt_of_le hb hB.size) j cs h
theorem RJ.lt {W : World} {j : J} {cs : List Value} {B : Nat → Prop} (h : RJ W B j cs) : RJ W (· < W.heap.size) j cs := RJ.same (fun _ _ => rfl) (fun _ hb => hb.2) j cs (RJ.inside j cs h)
theorem RJ.any2 {W : World} {j : J} {cs : List Value} {B : Nat → Prop} (h : RJ W B j cs) : RJ W (fun _ => True) j cs := RJ.same (fun _ _ => rfl) (fun _ _ => trivial) j cs h
set_option maxRecDepth 100000 in
set_option maxHeartbeats 6400000 in
theorem lawJsonAtom (j : J) (cs : List Value) (w : World) (hr : RJ w (· < w.heap.size) j cs) :
    Calls Try.prog 4 #[.agg cs.toArray] w fun e w' => e = .returned (.bool true) ∧ Below w.heap.size w w' := by
  have HJ : Hid (RJ w (· < w.heap.size) j cs) := hr
  rw [RJ_eq] at hr
  obtain ⟨ka, kc, ia, ic, rfl, -⟩ := hr
  go_enter Try.func4, Try.ntmps4
  go_upto_region 1 with fail
  obtain ⟨W0, hW0⟩ : ∃ W, W = (w.alloc (.cells #[.int .i64 j.k, .int .i64 j.n, .string ⟨j.t.toArray⟩, .slice ka j.keys.length kc, .slice ia j.items.length ic] 38)) := ⟨_, rfl⟩
  have hS0 : Below w.heap.size w W0 ∧ W0.heap[w.heap.size]? = some (.cells #[.int .i64 j.k, .int .i64 j.n, .string ⟨j.t.toArray⟩, .slice ka j.keys.length kc, .slice ia j.items.length ic] 38) := by rw [hW0]; exact ⟨(Below.refl _ _).alloc (Nat.le_refl _) _, heap_new' _ _ rfl⟩
  rw [← hW0]
  clear hW0
  have M0 : Hid (Below w.heap.size w W0 ∧ W0.heap[w.heap.size]? = some (.cells #[.int .i64 j.k, .int .i64 j.n, .string ⟨j.t.toArray⟩, .slice ka j.keys.length kc, .slice ia j.items.length ic] 38)) := hS0
  have c_G_0 := cell_at (o := 0) M0.out.2 rfl
  have c_G_1 := cell_at (o := 1) M0.out.2 rfl
  have c_G_2 := cell_at (o := 2) M0.out.2 rfl
  have c_G_3 := cell_at (o := 3) M0.out.2 rfl
  have c_G_4 := cell_at (o := 4) M0.out.2 rfl
  clear hS0
  go_wp2_with fail
  refine (szJson j _ 1048576 w.heap.size _ (by omega) (by omega) (M0.out.1).size (HJ.out.below (M0.out.1))).mono ?_
  rintro e w2 ⟨rfl, hB⟩
  have M1 : Hid (Below w.heap.size w w2 ∧ w2.heap[w.heap.size]? = some (.cells #[.int .i64 j.k, .int .i64 j.n, .string ⟨j.t.toArray⟩, .slice ka j.keys.length kc, .slice ia j.items.length ic] 38)) := ⟨M0.out.1.trans (hB.mono M0.out.1.size), heap_keptD M0.out.2 hB⟩
  clear c_G_0 c_G_1 c_G_2 c_G_3 c_G_4 M0 hB
  have c_G_0 := cell_at (o := 0) M1.out.2 rfl
  have c_G_1 := cell_at (o := 1) M1.out.2 rfl
  have c_G_2 := cell_at (o := 2) M1.out.2 rfl
  have c_G_3 := cell_at (o := 3) M1.out.2 rfl
  have c_G_4 := cell_at (o := 4) M1.out.2 rfl
  by_cases hz : (1048576 : Int) - (j.sz : Int) < 0
  case pos =>
    rw [less_no hz]
    go_wp2_with fail
    go_ret
    exact ⟨rfl, M1.out.1⟩
  rw [less_yes (by omega)]
  have HZ : Hid (j.sz ≤ 1048576) := by show _ ≤ _; omega
  go_wp2_with fail
  refine (toJson j _ w.heap.size _ (M1.out.1).size HZ.out (HJ.out.below (M1.out.1))).mono ?_
  rintro e w3 ⟨cs1, rfl, hJ, hB⟩
  have HJ1 := Lib.hid hJ
  have M2 : Hid (Below w.heap.size w w3 ∧ w3.heap[w.heap.size]? = some (.cells #[.int .i64 j.k, .int .i64 j.n, .string ⟨j.t.toArray⟩, .slice ka j.keys.length kc, .slice ia j.items.length ic] 38)) := ⟨M1.out.1.trans (hB.mono M1.out.1.size), heap_keptD M1.out.2 hB⟩
  clear c_G_0 c_G_1 c_G_2 c_G_3 c_G_4 M1 hB hJ
  have c_G_0 := cell_at (o := 0) M2.out.2 rfl
  have c_G_1 := cell_at (o := 1) M2.out.2 rfl
  have c_G_2 := cell_at (o := 2) M2.out.2 rfl
  have c_G_3 := cell_at (o := 3) M2.out.2 rfl
  have c_G_4 := cell_at (o := 4) M2.out.2 rfl
  go_wp2_with fail
  refine (jsonAtomS j cs1 _ _ HJ1.out).mono ?_
  rintro e w4 ⟨rfl, hB⟩
  obtain ⟨x, hx⟩ : ∃ x, x = (jaR j).1 := ⟨_, rfl⟩
  obtain ⟨n, hn⟩ : ∃ n, n = (jaR j).2 := ⟨_, rfl⟩
  rw [← hx, ← hn]
  have HXN : Hid (x = (jaR j).1 ∧ n = (jaR j).2) := ⟨hx, hn⟩
  clear hx hn
  have hC := hB.trans ((below_allocD w4 (.cells #[.int .i64 x.k, .int .i64 x.n, .string ⟨x.t.toArray⟩] 31)).mono hB.size)
  obtain ⟨p4, hp4⟩ : ∃ n, n = w4.heap.size := ⟨_, rfl⟩
  have M3 : Hid (Below w.heap.size w (w4.alloc (.cells #[.int .i64 x.k, .int .i64 x.n, .string ⟨x.t.toArray⟩] 31)) ∧ (w4.alloc (.cells #[.int .i64 x.k, .int .i64 x.n, .string ⟨x.t.toArray⟩] 31)).heap[w.heap.size]? = some (.cells #[.int .i64 j.k, .int .i64 j.n, .string ⟨j.t.toArray⟩, .slice ka j.keys.length kc, .slice ia j.items.length ic] 38) ∧ (w4.alloc (.cells #[.int .i64 x.k, .int .i64 x.n, .string ⟨x.t.toArray⟩] 31)).heap[p4]? = some (.cells #[.int .i64 x.k, .int .i64 x.n, .string ⟨x.t.toArray⟩] 31)) := ⟨M2.out.1.trans (hC.mono M2.out.1.size), heap_keptD M2.out.2 hC, heap_new' _ _ hp4⟩
  clear c_G_0 c_G_1 c_G_2 c_G_3 c_G_4 M2 hB hC HJ1
  have c_G_0 := cell_at (o := 0) M3.out.2.1 rfl
  have c_G_1 := cell_at (o := 1) M3.out.2.1 rfl
  have c_G_2 := cell_at (o := 2) M3.out.2.1 rfl
  have c_G_3 := cell_at (o := 3) M3.out.2.1 rfl
  have c_G_4 := cell_at (o := 4) M3.out.2.1 rfl
  have c_R_0 := cell_at (o := 0) M3.out.2.2 rfl
  have c_R_1 := cell_at (o := 1) M3.out.2.2 rfl
  have c_R_2 := cell_at (o := 2) M3.out.2.2 rfl
  go_upto_region 6 with fail
  rw [← hp4]
  clear hp4
  obtain ⟨V4, hV4⟩ : ∃ W, W = (w4.alloc (.cells #[.int .i64 x.k, .int .i64 x.n, .string ⟨x.t.toArray⟩] 31)) := ⟨_, rfl⟩
  have NV4 : Hid (Below w.heap.size w V4 ∧ V4.heap[w.heap.size]? = some (.cells #[.int .i64 j.k, .int .i64 j.n, .string ⟨j.t.toArray⟩, .slice ka j.keys.length kc, .slice ia j.items.length ic] 38) ∧ V4.heap[p4]? = some (.cells #[.int .i64 x.k, .int .i64 x.n, .string ⟨x.t.toArray⟩] 31)) := by rw [hV4]; exact M3.out
  rw [← hV4]
  clear c_G_0 c_G_1 c_G_2 c_G_3 c_G_4 c_R_0 c_R_1 c_R_2 hV4 M3
  have c_G_0 := cell_at (o := 0) NV4.out.2.1 rfl
  have c_G_1 := cell_at (o := 1) NV4.out.2.1 rfl
  have c_G_2 := cell_at (o := 2) NV4.out.2.1 rfl
  have c_G_3 := cell_at (o := 3) NV4.out.2.1 rfl
  have c_G_4 := cell_at (o := 4) NV4.out.2.1 rfl
  have c_R_0 := cell_at (o := 0) NV4.out.2.2 rfl
  have c_R_1 := cell_at (o := 1) NV4.out.2.2 rfl
  have c_R_2 := cell_at (o := 2) NV4.out.2.2 rfl
  go_wp2_with fail
  refine (toJson j _ w.heap.size _ (NV4.out.1).size HZ.out (HJ.out.below (NV4.out.1))).mono ?_
  rintro e w5 ⟨cs2, rfl, hJ, hB⟩
  have HJ2 := Lib.hid hJ.lt
  rw [RJ_eq] at hJ
  obtain ⟨ka2, kc2, ia2, ic2, rfl, -⟩ := hJ
  have hC := hB.trans ((below_allocD w5 (.cells #[.int .i64 j.k, .int .i64 j.n, .string ⟨j.t.toArray⟩, .slice ka2 j.keys.length kc2, .slice ia2 j.items.length ic2] 28)).mono hB.size)
  obtain ⟨p5, hp5⟩ : ∃ n, n = w5.heap.size := ⟨_, rfl⟩
  have M4 : Hid (Below w.heap.size w (w5.alloc (.cells #[.int .i64 j.k, .int .i64 j.n, .string ⟨j.t.toArray⟩, .slice ka2 j.keys.length kc2, .slice ia2 j.items.length ic2] 28)) ∧ (w5.alloc (.cells #[.int .i64 j.k, .int .i64 j.n, .string ⟨j.t.toArray⟩, .slice ka2 j.keys.length kc2, .slice ia2 j.items.length ic2] 28)).heap[w.heap.size]? = some (.cells #[.int .i64 j.k, .int .i64 j.n, .string ⟨j.t.toArray⟩, .slice ka j.keys.length kc, .slice ia j.items.length ic] 38) ∧ (w5.alloc (.cells #[.int .i64 j.k, .int .i64 j.n, .string ⟨j.t.toArray⟩, .slice ka2 j.keys.length kc2, .slice ia2 j.items.length ic2] 28)).heap[p4]? = some (.cells #[.int .i64 x.k, .int .i64 x.n, .string ⟨x.t.toArray⟩] 31) ∧ (w5.alloc (.cells #[.int .i64 j.k, .int .i64 j.n, .string ⟨j.t.toArray⟩, .slice ka2 j.keys.length kc2, .slice ia2 j.items.length ic2] 28)).heap[p5]? = some (.cells #[.int .i64 j.k, .int .i64 j.n, .string ⟨j.t.toArray⟩, .slice ka2 j.keys.length kc2, .slice ia2 j.items.length ic2] 28) ∧ RJ (w5.alloc (.cells #[.int .i64 j.k, .int .i64 j.n, .string ⟨j.t.toArray⟩, .slice ka2 j.keys.length kc2, .slice ia2 j.items.length ic2] 28)) (· < (w5.alloc (.cells #[.int .i64 j.k, .int .i64 j.n, .string ⟨j.t.toArray⟩, .slice ka2 j.keys.length kc2, .slice ia2 j.items.length ic2] 28)).heap.size) j (#[.int .i64 j.k, .int .i64 j.n, .string ⟨j.t.toArray⟩, .slice ka2 j.keys.length kc2, .slice ia2 j.items.length ic2]).toList) := ⟨NV4.out.1.trans (hC.mono NV4.out.1.size), heap_keptD NV4.out.2.1 hC, heap_keptD NV4.out.2.2 hC, heap_new' _ _ hp5, HJ2.out.up (below_allocD _ _)⟩
  clear c_G_0 c_G_1 c_G_2 c_G_3 c_G_4 c_R_0 c_R_1 c_R_2 NV4 hB hC HJ2
  have c_G_0 := cell_at (o := 0) M4.out.2.1 rfl
  have c_G_1 := cell_at (o := 1) M4.out.2.1 rfl
  have c_G_2 := cell_at (o := 2) M4.out.2.1 rfl
  have c_G_3 := cell_at (o := 3) M4.out.2.1 rfl
  have c_G_4 := cell_at (o := 4) M4.out.2.1 rfl
  have c_R_0 := cell_at (o := 0) M4.out.2.2.1 rfl
  have c_R_1 := cell_at (o := 1) M4.out.2.2.1 rfl
  have c_R_2 := cell_at (o := 2) M4.out.2.2.1 rfl
  have c_X_0 := cell_at (o := 0) M4.out.2.2.2.1 rfl
  have c_X_1 := cell_at (o := 1) M4.out.2.2.2.1 rfl
  have c_X_2 := cell_at (o := 2) M4.out.2.2.2.1 rfl
  have c_X_3 := cell_at (o := 3) M4.out.2.2.2.1 rfl
  have c_X_4 := cell_at (o := 4) M4.out.2.2.2.1 rfl
  go_upto_region 7 with fail
  rw [← hp5]
  clear hp5
  obtain ⟨V5, hV5⟩ : ∃ W, W = (w5.alloc (.cells #[.int .i64 j.k, .int .i64 j.n, .string ⟨j.t.toArray⟩, .slice ka2 j.keys.length kc2, .slice ia2 j.items.length ic2] 28)) := ⟨_, rfl⟩
  have NV5 : Hid (Below w.heap.size w V5 ∧ V5.heap[w.heap.size]? = some (.cells #[.int .i64 j.k, .int .i64 j.n, .string ⟨j.t.toArray⟩, .slice ka j.keys.length kc, .slice ia j.items.length ic] 38) ∧ V5.heap[p4]? = some (.cells #[.int .i64 x.k, .int .i64 x.n, .string ⟨x.t.toArray⟩] 31) ∧ V5.heap[p5]? = some (.cells #[.int .i64 j.k, .int .i64 j.n, .string ⟨j.t.toArray⟩, .slice ka2 j.keys.length kc2, .slice ia2 j.items.length ic2] 28) ∧ RJ V5 (· < V5.heap.size) j (#[.int .i64 j.k, .int .i64 j.n, .string ⟨j.t.toArray⟩, .slice ka2 j.keys.length kc2, .slice ia2 j.items.length ic2]).toList) := by rw [hV5]; exact M4.out
  rw [← hV5]
  clear c_G_0 c_G_1 c_G_2 c_G_3 c_G_4 c_R_0 c_R_1 c_R_2 c_X_0 c_X_1 c_X_2 c_X_3 c_X_4 hV5 M4
  have c_G_0 := cell_at (o := 0) NV5.out.2.1 rfl
  have c_G_1 := cell_at (o := 1) NV5.out.2.1 rfl
  have c_G_2 := cell_at (o := 2) NV5.out.2.1 rfl
  have c_G_3 := cell_at (o := 3) NV5.out.2.1 rfl
  have c_G_4 := cell_at (o := 4) NV5.out.2.1 rfl
  have c_R_0 := cell_at (o := 0) NV5.out.2.2.1 rfl
  have c_R_1 := cell_at (o := 1) NV5.out.2.2.1 rfl
  have c_R_2 := cell_at (o := 2) NV5.out.2.2.1 rfl
  have c_X_0 := cell_at (o := 0) NV5.out.2.2.2.1 rfl
  have c_X_1 := cell_at (o := 1) NV5.out.2.2.2.1 rfl
  have c_X_2 := cell_at (o := 2) NV5.out.2.2.2.1 rfl
  have c_X_3 := cell_at (o := 3) NV5.out.2.2.2.1 rfl
  have c_X_4 := cell_at (o := 4) NV5.out.2.2.2.1 rfl
  go_wp2_with fail
  refine (jsonAtomI j _ _ _ HZ.out (NV5.out.2.2.2.2)).mono ?_
  rintro e w6 ⟨rfl, hB⟩
  rw [← HXN.out.1, ← HXN.out.2]
  have hC := hB.trans ((below_allocD w6 (.cells #[.int .i64 x.k, .int .i64 x.n, .string ⟨x.t.toArray⟩] 31)).mono hB.size)
  obtain ⟨p6, hp6⟩ : ∃ n, n = w6.heap.size := ⟨_, rfl⟩
  have M5 : Hid (Below w.heap.size w (w6.alloc (.cells #[.int .i64 x.k, .int .i64 x.n, .string ⟨x.t.toArray⟩] 31)) ∧ (w6.alloc (.cells #[.int .i64 x.k, .int .i64 x.n, .string ⟨x.t.toArray⟩] 31)).heap[w.heap.size]? = some (.cells #[.int .i64 j.k, .int .i64 j.n, .string ⟨j.t.toArray⟩, .slice ka j.keys.length kc, .slice ia j.items.length ic] 38) ∧ (w6.alloc (.cells #[.int .i64 x.k, .int .i64 x.n, .string ⟨x.t.toArray⟩] 31)).heap[p4]? = some (.cells #[.int .i64 x.k, .int .i64 x.n, .string ⟨x.t.toArray⟩] 31) ∧ (w6.alloc (.cells #[.int .i64 x.k, .int .i64 x.n, .string ⟨x.t.toArray⟩] 31)).heap[p5]? = some (.cells #[.int .i64 j.k, .int .i64 j.n, .string ⟨j.t.toArray⟩, .slice ka2 j.keys.length kc2, .slice ia2 j.items.length ic2] 28) ∧ RJ (w6.alloc (.cells #[.int .i64 x.k, .int .i64 x.n, .string ⟨x.t.toArray⟩] 31)) (· < (w6.alloc (.cells #[.int .i64 x.k, .int .i64 x.n, .string ⟨x.t.toArray⟩] 31)).heap.size) j (#[.int .i64 j.k, .int .i64 j.n, .string ⟨j.t.toArray⟩, .slice ka2 j.keys.length kc2, .slice ia2 j.items.length ic2]).toList ∧ (w6.alloc (.cells #[.int .i64 x.k, .int .i64 x.n, .string ⟨x.t.toArray⟩] 31)).heap[p6]? = some (.cells #[.int .i64 x.k, .int .i64 x.n, .string ⟨x.t.toArray⟩] 31)) := ⟨NV5.out.1.trans (hC.mono NV5.out.1.size), heap_keptD NV5.out.2.1 hC, heap_keptD NV5.out.2.2.1 hC, heap_keptD NV5.out.2.2.2.1 hC, NV5.out.2.2.2.2.up hC, heap_new' _ _ hp6⟩
  clear c_G_0 c_G_1 c_G_2 c_G_3 c_G_4 c_R_0 c_R_1 c_R_2 c_X_0 c_X_1 c_X_2 c_X_3 c_X_4 NV5 hB hC
  have c_G_0 := cell_at (o := 0) M5.out.2.1 rfl
  have c_G_1 := cell_at (o := 1) M5.out.2.1 rfl
  have c_G_2 := cell_at (o := 2) M5.out.2.1 rfl
  have c_G_3 := cell_at (o := 3) M5.out.2.1 rfl
  have c_G_4 := cell_at (o := 4) M5.out.2.1 rfl
  have c_R_0 := cell_at (o := 0) M5.out.2.2.1 rfl
  have c_R_1 := cell_at (o := 1) M5.out.2.2.1 rfl
  have c_R_2 := cell_at (o := 2) M5.out.2.2.1 rfl
  have c_X_0 := cell_at (o := 0) M5.out.2.2.2.1 rfl
  have c_X_1 := cell_at (o := 1) M5.out.2.2.2.1 rfl
  have c_X_2 := cell_at (o := 2) M5.out.2.2.2.1 rfl
  have c_X_3 := cell_at (o := 3) M5.out.2.2.2.1 rfl
  have c_X_4 := cell_at (o := 4) M5.out.2.2.2.1 rfl
  have c_A_0 := cell_at (o := 0) M5.out.2.2.2.2.2 rfl
  have c_A_1 := cell_at (o := 1) M5.out.2.2.2.2.2 rfl
  have c_A_2 := cell_at (o := 2) M5.out.2.2.2.2.2 rfl
  go_upto_region 8 with fail
  rw [← hp6]
  clear hp6
  obtain ⟨V6, hV6⟩ : ∃ W, W = (w6.alloc (.cells #[.int .i64 x.k, .int .i64 x.n, .string ⟨x.t.toArray⟩] 31)) := ⟨_, rfl⟩
  have NV6 : Hid (Below w.heap.size w V6 ∧ V6.heap[w.heap.size]? = some (.cells #[.int .i64 j.k, .int .i64 j.n, .string ⟨j.t.toArray⟩, .slice ka j.keys.length kc, .slice ia j.items.length ic] 38) ∧ V6.heap[p4]? = some (.cells #[.int .i64 x.k, .int .i64 x.n, .string ⟨x.t.toArray⟩] 31) ∧ V6.heap[p5]? = some (.cells #[.int .i64 j.k, .int .i64 j.n, .string ⟨j.t.toArray⟩, .slice ka2 j.keys.length kc2, .slice ia2 j.items.length ic2] 28) ∧ RJ V6 (· < V6.heap.size) j (#[.int .i64 j.k, .int .i64 j.n, .string ⟨j.t.toArray⟩, .slice ka2 j.keys.length kc2, .slice ia2 j.items.length ic2]).toList ∧ V6.heap[p6]? = some (.cells #[.int .i64 x.k, .int .i64 x.n, .string ⟨x.t.toArray⟩] 31)) := by rw [hV6]; exact M5.out
  rw [← hV6]
  clear c_G_0 c_G_1 c_G_2 c_G_3 c_G_4 c_R_0 c_R_1 c_R_2 c_X_0 c_X_1 c_X_2 c_X_3 c_X_4 c_A_0 c_A_1 c_A_2 hV6 M5
  have c_G_0 := cell_at (o := 0) NV6.out.2.1 rfl
  have c_G_1 := cell_at (o := 1) NV6.out.2.1 rfl
  have c_G_2 := cell_at (o := 2) NV6.out.2.1 rfl
  have c_G_3 := cell_at (o := 3) NV6.out.2.1 rfl
  have c_G_4 := cell_at (o := 4) NV6.out.2.1 rfl
  have c_R_0 := cell_at (o := 0) NV6.out.2.2.1 rfl
  have c_R_1 := cell_at (o := 1) NV6.out.2.2.1 rfl
  have c_R_2 := cell_at (o := 2) NV6.out.2.2.1 rfl
  have c_X_0 := cell_at (o := 0) NV6.out.2.2.2.1 rfl
  have c_X_1 := cell_at (o := 1) NV6.out.2.2.2.1 rfl
  have c_X_2 := cell_at (o := 2) NV6.out.2.2.2.1 rfl
  have c_X_3 := cell_at (o := 3) NV6.out.2.2.2.1 rfl
  have c_X_4 := cell_at (o := 4) NV6.out.2.2.2.1 rfl
  have c_A_0 := cell_at (o := 0) NV6.out.2.2.2.2.2 rfl
  have c_A_1 := cell_at (o := 1) NV6.out.2.2.2.2.2 rfl
  have c_A_2 := cell_at (o := 2) NV6.out.2.2.2.2.2 rfl
  have nn : (n != n) = false := by simp
  go_wp2_with fail
  refine (eqAtom x V6).mono ?_
  rintro e w7 ⟨rfl, hB⟩
  have M6 : Hid (Below w.heap.size w w7 ∧ w7.heap[w.heap.size]? = some (.cells #[.int .i64 j.k, .int .i64 j.n, .string ⟨j.t.toArray⟩, .slice ka j.keys.length kc, .slice ia j.items.length ic] 38) ∧ w7.heap[p4]? = some (.cells #[.int .i64 x.k, .int .i64 x.n, .string ⟨x.t.toArray⟩] 31) ∧ w7.heap[p5]? = some (.cells #[.int .i64 j.k, .int .i64 j.n, .string ⟨j.t.toArray⟩, .slice ka2 j.keys.length kc2, .slice ia2 j.items.length ic2] 28) ∧ RJ w7 (· < w7.heap.size) j (#[.int .i64 j.k, .int .i64 j.n, .string ⟨j.t.toArray⟩, .slice ka2 j.keys.length kc2, .slice ia2 j.items.length ic2]).toList ∧ w7.heap[p6]? = some (.cells #[.int .i64 x.k, .int .i64 x.n, .string ⟨x.t.toArray⟩] 31)) := ⟨NV6.out.1.trans (hB.mono NV6.out.1.size), heap_keptD NV6.out.2.1 hB, heap_keptD NV6.out.2.2.1 hB, heap_keptD NV6.out.2.2.2.1 hB, NV6.out.2.2.2.2.1.up hB, heap_keptD NV6.out.2.2.2.2.2 hB⟩
  clear c_G_0 c_G_1 c_G_2 c_G_3 c_G_4 c_R_0 c_R_1 c_R_2 c_X_0 c_X_1 c_X_2 c_X_3 c_X_4 c_A_0 c_A_1 c_A_2 NV6 hB
  have c_G_0 := cell_at (o := 0) M6.out.2.1 rfl
  have c_G_1 := cell_at (o := 1) M6.out.2.1 rfl
  have c_G_2 := cell_at (o := 2) M6.out.2.1 rfl
  have c_G_3 := cell_at (o := 3) M6.out.2.1 rfl
  have c_G_4 := cell_at (o := 4) M6.out.2.1 rfl
  have c_R_0 := cell_at (o := 0) M6.out.2.2.1 rfl
  have c_R_1 := cell_at (o := 1) M6.out.2.2.1 rfl
  have c_R_2 := cell_at (o := 2) M6.out.2.2.1 rfl
  have c_X_0 := cell_at (o := 0) M6.out.2.2.2.1 rfl
  have c_X_1 := cell_at (o := 1) M6.out.2.2.2.1 rfl
  have c_X_2 := cell_at (o := 2) M6.out.2.2.2.1 rfl
  have c_X_3 := cell_at (o := 3) M6.out.2.2.2.1 rfl
  have c_X_4 := cell_at (o := 4) M6.out.2.2.2.1 rfl
  have c_A_0 := cell_at (o := 0) M6.out.2.2.2.2.2 rfl
  have c_A_1 := cell_at (o := 1) M6.out.2.2.2.2.2 rfl
  have c_A_2 := cell_at (o := 2) M6.out.2.2.2.2.2 rfl
  have DR : Hid (Below w.heap.size w w7.drew ∧ w7.drew.heap[w.heap.size]? = some (.cells #[.int .i64 j.k, .int .i64 j.n, .string ⟨j.t.toArray⟩, .slice ka j.keys.length kc, .slice ia j.items.length ic] 38) ∧ w7.drew.heap[p4]? = some (.cells #[.int .i64 x.k, .int .i64 x.n, .string ⟨x.t.toArray⟩] 31) ∧ w7.drew.heap[p5]? = some (.cells #[.int .i64 j.k, .int .i64 j.n, .string ⟨j.t.toArray⟩, .slice ka2 j.keys.length kc2, .slice ia2 j.items.length ic2] 28) ∧ RJ w7.drew (· < w7.drew.heap.size) j (#[.int .i64 j.k, .int .i64 j.n, .string ⟨j.t.toArray⟩, .slice ka2 j.keys.length kc2, .slice ia2 j.items.length ic2]).toList ∧ w7.drew.heap[p6]? = some (.cells #[.int .i64 x.k, .int .i64 x.n, .string ⟨x.t.toArray⟩] 31)) := ⟨M6.out.1.trans (((Below.refl _ _).drew).mono M6.out.1.size), heap_keptD M6.out.2.1 ((Below.refl _ _).drew), heap_keptD M6.out.2.2.1 ((Below.refl _ _).drew), heap_keptD M6.out.2.2.2.1 ((Below.refl _ _).drew), M6.out.2.2.2.2.1.up ((Below.refl _ _).drew), heap_keptD M6.out.2.2.2.2.2 ((Below.refl _ _).drew)⟩
  go_wp2_with fail
  go_region_with (first | (go_at_call 17; refine (toJson j _ w.heap.size _ ?_ HZ.out ?_).mono ?_; exact (DR.out.1).size; exact HJ.out.below (DR.out.1); rintro e w8 ⟨cs3, rfl, hJ3, hB8⟩; have z0 := cell_at (o := 0) (heap_kept2 (DR.out.2.2.2.1) hB8) rfl; have z1 := cell_at (o := 1) (heap_kept2 (DR.out.2.2.2.1) hB8) rfl; have z2 := cell_at (o := 2) (heap_kept2 (DR.out.2.2.2.1) hB8) rfl; have z3 := cell_at (o := 3) (heap_kept2 (DR.out.2.2.2.1) hB8) rfl; have z4 := cell_at (o := 4) (heap_kept2 (DR.out.2.2.2.1) hB8) rfl) | (go_at_call 12; refine (eqJson j _ _ (fun _ => True) (fun _ => True) _ ?_ ?_).mono ?_; exact RJ.any2 ((DR.out.2.2.2.2.1).up hB8); exact RJ.any2 hJ3; rintro e w9 ⟨rfl, hB9⟩))
  all_goals
    have hb9 : Below w.heap.size w w9 := (DR.out.1).trans ((hB8.trans (hB9.mono hB8.size)).mono (DR.out.1).size)
    clear hB8 hB9 hJ3 c_G_0 c_G_1 c_G_2 c_G_3 c_G_4 c_R_0 c_R_1 c_R_2 c_X_0 c_X_1 c_X_2 c_X_3 c_X_4 c_A_0 c_A_1 c_A_2
    go_wp2_with fail
    go_ret
    exact ⟨rfl, hb9⟩
end Go.Proofs.Ytkncpfhblciplaa
