import Derived.Test.YtolcaogggoklmaaDep
namespace Go.Proofs.Ytolcaogggoklmaa
open Go.RowKit
set_option linter.unusedSimpArgs false
theorem RJ.any {w : World} {B : Nat → Prop} {j : J} {cs : List Value} (h : RJ w B j cs) : RJ w (fun _ => True) j cs := RJ.same (fun _ _ => rfl) (fun _ _ => trivial) j cs h
theorem heap_new (w : World) (o : Obj) : (w.alloc o).heap[w.heap.size]? = some o := by
  show (w.heap.push o)[w.heap.size]? = _
  simp
theorem heap_kept {w w' : World} {b : Nat} {o : Obj} (h : w.heap[b]? = some o) (hB : Below w.heap.size w w') : w'.heap[b]? = some o := by
  rw [hB.block b (Array.getElem?_eq_some_iff.1 h).1]; exact h
theorem heap_alloc_kept {w : World} {b : Nat} {o o' : Obj} (h : w.heap[b]? = some o) : (w.alloc o').heap[b]? = some o := by
  rw [Below.heap_alloc _ _ _ (Array.getElem?_eq_some_iff.1 h).1]; exact h

set_option maxHeartbeats 3200000 in
theorem lawOK (j : J) (cs : List Value) (w : World) (hr : RJ w (· < w.heap.size) j cs) :
    Calls Try.prog 3 #[.agg cs.toArray] w fun e w' => e = .returned (.bool true) ∧ Below w.heap.size w w' := by
  have HJ : Hid (RJ w (· < w.heap.size) j cs) := hr
  rw [RJ_eq] at hr
  obtain ⟨ka, kc, ia, ic, rfl, -⟩ := hr
  have hB0 : Below w.heap.size w (w.alloc (.cells #[.int .i64 j.k, .int .i64 j.n, .string ⟨j.t.toArray⟩, .slice ka j.keys.length kc, .slice ia j.items.length ic] 25)) := (Below.refl _ _).alloc (Nat.le_refl _) _
  have g0 := heap_new w (.cells #[.int .i64 j.k, .int .i64 j.n, .string ⟨j.t.toArray⟩, .slice ka j.keys.length kc, .slice ia j.items.length ic] 25)
  have G0 : Hid (_ = _) := g0
  clear g0
  go_enter Try.func3, Try.ntmps3
  go_wp2_with fail
  refine (szJson j _ 1048576 w.heap.size _ (by omega) (by omega) (by simp) (HJ.out.below hB0)).mono ?_
  rintro e w2 ⟨rfl, hB2⟩
  have g2 := heap_kept G0.out hB2
  have hb2 : Below w.heap.size w w2 := hB0.trans (hB2.mono (by simp))
  clear hB2 hB0 G0
  by_cases hz : (1048576 : Int) - (j.sz : Int) < 0
  · rw [less_no hz]
    clear g2
    go_wp2_with fail
    go_ret
    exact ⟨rfl, hb2⟩
  · rw [less_yes (by omega)]
    have hsz : j.sz ≤ 1048576 := by omega
    have x0 := cell_at (o := 0) g2 rfl
    have x1 := cell_at (o := 1) g2 rfl
    have x2 := cell_at (o := 2) g2 rfl
    have x3 := cell_at (o := 3) g2 rfl
    have x4 := cell_at (o := 4) g2 rfl
    have G2 : Hid (_ = _) := g2
    clear g2
    go_wp2_with fail
    refine (toJson j _ w.heap.size _ hb2.size hsz (HJ.out.below hb2)).mono ?_
    rintro e w3 ⟨cs1, rfl, hJ1, hB3⟩
    have g3 := heap_kept G2.out hB3
    have hb3 : Below w.heap.size w w3 := hb2.trans (hB3.mono hb2.size)
    clear x0 x1 x2 x3 x4 hB3 G2 hb2
    have G3 : Hid (_ = _) := g3
    clear g3
    go_wp2_with fail
    refine (jsonOKs j cs1 _ _ hJ1).mono ?_
    rintro e w4 ⟨rfl, hB4⟩
    have g4 := heap_kept G3.out hB4
    have hb4 : Below w.heap.size w w4 := hb3.trans (hB4.mono hb3.size)
    clear hB4 G3 hb3 hJ1
    have x0 := cell_at (o := 0) g4 rfl
    have x1 := cell_at (o := 1) g4 rfl
    have x2 := cell_at (o := 2) g4 rfl
    have x3 := cell_at (o := 3) g4 rfl
    have x4 := cell_at (o := 4) g4 rfl
    have G4 : Hid (_ = _) := g4
    clear g4
    go_wp2_with fail
    refine (toJson j _ w.heap.size _ hb4.size hsz (HJ.out.below hb4)).mono ?_
    rintro e w5 ⟨cs2, rfl, hJ2, hB5⟩
    have HJ2 : Hid (RJ w5 (w4.heap.size ≤ ·) j cs2) := hJ2
    rw [RJ_eq] at hJ2
    obtain ⟨ka2, kc2, ia2, ic2, rfl, -⟩ := hJ2
    have g5 := heap_kept G4.out hB5
    have hb5 : Below w.heap.size w w5 := hb4.trans (hB5.mono hb4.size)
    clear x0 x1 x2 x3 x4 hB5 G4
    have G5 : Hid (_ = _) := g5
    clear g5
    go_wp2_with fail
    have hc6 : Below w5.heap.size w5 (w5.alloc (.cells #[.int .i64 j.k, .int .i64 j.n, .string ⟨j.t.toArray⟩, .slice ka2 j.keys.length kc2, .slice ia2 j.items.length ic2] 30)) := (Below.refl _ _).alloc (Nat.le_refl _) _
    have g6 := heap_alloc_kept (o' := .cells #[.int .i64 j.k, .int .i64 j.n, .string ⟨j.t.toArray⟩, .slice ka2 j.keys.length kc2, .slice ia2 j.items.length ic2] 30) G5.out
    have f6 := heap_new w5 (.cells #[.int .i64 j.k, .int .i64 j.n, .string ⟨j.t.toArray⟩, .slice ka2 j.keys.length kc2, .slice ia2 j.items.length ic2] 30)
    refine (jsonOK j _ _ _ (HJ2.out.later hc6)).mono ?_
    rintro e w7 ⟨rfl, hB7⟩
    have g7 := heap_kept g6 hB7
    have f7 := heap_kept f6 hB7
    have hc7 : Below w5.heap.size w5 w7 := hc6.trans (hB7.mono (by simp))
    have hb7 : Below w.heap.size w w7 := hb5.trans (hc7.mono hb5.size)
    have x0 := cell_at (o := 0) g7 rfl
    have x1 := cell_at (o := 1) g7 rfl
    have x2 := cell_at (o := 2) g7 rfl
    have x3 := cell_at (o := 3) g7 rfl
    have x4 := cell_at (o := 4) g7 rfl
    have y0 := cell_at (o := 0) f7 rfl
    have y1 := cell_at (o := 1) f7 rfl
    have y2 := cell_at (o := 2) f7 rfl
    have y3 := cell_at (o := 3) f7 rfl
    have y4 := cell_at (o := 4) f7 rfl
    have HB7 : Hid (Below w.heap.size w w7) := hb7
    have HC7 : Hid (Below w5.heap.size w5 w7) := hc7
    have F7 : Hid (w7.drew.heap[w5.heap.size]? = some (.cells #[.int .i64 j.k, .int .i64 j.n, .string ⟨j.t.toArray⟩, .slice ka2 j.keys.length kc2, .slice ia2 j.items.length ic2] 30)) := f7
    clear hB7 hc6 g6 f6 g7 f7 G5 hb4 hb5 hb7 hc7
    generalize okB j = q at *
    have hq : (q != q) = false := by simp
    go_wp2_with fail
    go_region_with (first
      | (go_at_call 8; refine (toJson j _ w.heap.size _ ?_ hsz ?_).mono ?_; exact HB7.out.size; exact HJ.out.below HB7.out.drew; rintro e w8 ⟨cs3, rfl, hJ3, hB8⟩; have z0 := cell_at (o := 0) (heap_kept F7.out hB8) rfl; have z1 := cell_at (o := 1) (heap_kept F7.out hB8) rfl; have z2 := cell_at (o := 2) (heap_kept F7.out hB8) rfl; have z3 := cell_at (o := 3) (heap_kept F7.out hB8) rfl; have z4 := cell_at (o := 4) (heap_kept F7.out hB8) rfl)
      | (go_at_call 10; refine (eqJson j _ _ (fun _ => True) (fun _ => True) _ ?_ ?_).mono ?_; exact (HJ2.out.later (HC7.out.drew.trans (hB8.mono HC7.out.size))).any; exact hJ3.any; rintro e w9 ⟨rfl, hB9⟩))
    all_goals
      have hb9 : Below w.heap.size w w9 := (HB7.out.drew.trans (hB8.mono HB7.out.size)).trans (hB9.mono (Nat.le_trans HB7.out.size hB8.size))
      clear hB8 hB9 x0 x1 x2 x3 x4 y0 y1 y2 y3 y4 hJ3
      go_wp2_with fail
      go_ret
      exact ⟨rfl, hb9⟩
set_option maxHeartbeats 3200000 in
theorem lawDepth (j : J) (cs : List Value) (w : World) (hr : RJ w (· < w.heap.size) j cs) :
    Calls Try.prog 4 #[.agg cs.toArray] w fun e w' => e = .returned (.bool true) ∧ Below w.heap.size w w' := by
  have HJ : Hid (RJ w (· < w.heap.size) j cs) := hr
  rw [RJ_eq] at hr
  obtain ⟨ka, kc, ia, ic, rfl, -⟩ := hr
  have hB0 : Below w.heap.size w (w.alloc (.cells #[.int .i64 j.k, .int .i64 j.n, .string ⟨j.t.toArray⟩, .slice ka j.keys.length kc, .slice ia j.items.length ic] 25)) := (Below.refl _ _).alloc (Nat.le_refl _) _
  have g0 := heap_new w (.cells #[.int .i64 j.k, .int .i64 j.n, .string ⟨j.t.toArray⟩, .slice ka j.keys.length kc, .slice ia j.items.length ic] 25)
  have G0 : Hid (_ = _) := g0
  clear g0
  go_enter Try.func4, Try.ntmps4
  go_wp2_with fail
  refine (szJson j _ 1048576 w.heap.size _ (by omega) (by omega) (by simp) (HJ.out.below hB0)).mono ?_
  rintro e w2 ⟨rfl, hB2⟩
  have g2 := heap_kept G0.out hB2
  have hb2 : Below w.heap.size w w2 := hB0.trans (hB2.mono (by simp))
  clear hB2 hB0 G0
  by_cases hz : (1048576 : Int) - (j.sz : Int) < 0
  · rw [less_no hz]
    clear g2
    go_wp2_with fail
    go_ret
    exact ⟨rfl, hb2⟩
  · rw [less_yes (by omega)]
    have hsz : j.sz ≤ 1048576 := by omega
    have x0 := cell_at (o := 0) g2 rfl
    have x1 := cell_at (o := 1) g2 rfl
    have x2 := cell_at (o := 2) g2 rfl
    have x3 := cell_at (o := 3) g2 rfl
    have x4 := cell_at (o := 4) g2 rfl
    have G2 : Hid (_ = _) := g2
    clear g2
    go_wp2_with fail
    refine (toJson j _ w.heap.size _ hb2.size hsz (HJ.out.below hb2)).mono ?_
    rintro e w3 ⟨cs1, rfl, hJ1, hB3⟩
    have g3 := heap_kept G2.out hB3
    have hb3 : Below w.heap.size w w3 := hb2.trans (hB3.mono hb2.size)
    clear x0 x1 x2 x3 x4 hB3 G2 hb2
    have G3 : Hid (_ = _) := g3
    clear g3
    go_wp2_with fail
    refine (jsonDepthS j cs1 _ _ hJ1).mono ?_
    rintro e w4 ⟨rfl, hB4⟩
    have g4 := heap_kept G3.out hB4
    have hb4 : Below w.heap.size w w4 := hb3.trans (hB4.mono hb3.size)
    clear hB4 G3 hb3 hJ1
    have x0 := cell_at (o := 0) g4 rfl
    have x1 := cell_at (o := 1) g4 rfl
    have x2 := cell_at (o := 2) g4 rfl
    have x3 := cell_at (o := 3) g4 rfl
    have x4 := cell_at (o := 4) g4 rfl
    have G4 : Hid (_ = _) := g4
    clear g4
    go_wp2_with fail
    refine (toJson j _ w.heap.size _ hb4.size hsz (HJ.out.below hb4)).mono ?_
    rintro e w5 ⟨cs2, rfl, hJ2, hB5⟩
    have HJ2 : Hid (RJ w5 (w4.heap.size ≤ ·) j cs2) := hJ2
    rw [RJ_eq] at hJ2
    obtain ⟨ka2, kc2, ia2, ic2, rfl, -⟩ := hJ2
    have g5 := heap_kept G4.out hB5
    have hb5 : Below w.heap.size w w5 := hb4.trans (hB5.mono hb4.size)
    clear x0 x1 x2 x3 x4 hB5 G4
    have G5 : Hid (_ = _) := g5
    clear g5
    go_wp2_with fail
    have hc6 : Below w5.heap.size w5 (w5.alloc (.cells #[.int .i64 j.k, .int .i64 j.n, .string ⟨j.t.toArray⟩, .slice ka2 j.keys.length kc2, .slice ia2 j.items.length ic2] 30)) := (Below.refl _ _).alloc (Nat.le_refl _) _
    have g6 := heap_alloc_kept (o' := .cells #[.int .i64 j.k, .int .i64 j.n, .string ⟨j.t.toArray⟩, .slice ka2 j.keys.length kc2, .slice ia2 j.items.length ic2] 30) G5.out
    have f6 := heap_new w5 (.cells #[.int .i64 j.k, .int .i64 j.n, .string ⟨j.t.toArray⟩, .slice ka2 j.keys.length kc2, .slice ia2 j.items.length ic2] 30)
    refine (jsonDepthI j _ _ _ (HJ2.out.later hc6)).mono ?_
    rintro e w7 ⟨rfl, hB7⟩
    have g7 := heap_kept g6 hB7
    have f7 := heap_kept f6 hB7
    have hc7 : Below w5.heap.size w5 w7 := hc6.trans (hB7.mono (by simp))
    have hb7 : Below w.heap.size w w7 := hb5.trans (hc7.mono hb5.size)
    have x0 := cell_at (o := 0) g7 rfl
    have x1 := cell_at (o := 1) g7 rfl
    have x2 := cell_at (o := 2) g7 rfl
    have x3 := cell_at (o := 3) g7 rfl
    have x4 := cell_at (o := 4) g7 rfl
    have y0 := cell_at (o := 0) f7 rfl
    have y1 := cell_at (o := 1) f7 rfl
    have y2 := cell_at (o := 2) f7 rfl
    have y3 := cell_at (o := 3) f7 rfl
    have y4 := cell_at (o := 4) f7 rfl
    have HB7 : Hid (Below w.heap.size w w7) := hb7
    have HC7 : Hid (Below w5.heap.size w5 w7) := hc7
    have F7 : Hid (w7.drew.heap[w5.heap.size]? = some (.cells #[.int .i64 j.k, .int .i64 j.n, .string ⟨j.t.toArray⟩, .slice ka2 j.keys.length kc2, .slice ia2 j.items.length ic2] 30)) := f7
    clear hB7 hc6 g6 f6 g7 f7 G5 hb4 hb5 hb7 hc7
    generalize depI12 j = q at *
    generalize codeI j = q' at *
    have hq : (q != q) = false := by simp
    have hq' : (q' != q') = false := by simp
    go_wp2_with fail
    go_region_with (first
      | (go_at_call 8; refine (toJson j _ w.heap.size _ ?_ hsz ?_).mono ?_; exact HB7.out.size; exact HJ.out.below HB7.out.drew; rintro e w8 ⟨cs3, rfl, hJ3, hB8⟩; have z0 := cell_at (o := 0) (heap_kept F7.out hB8) rfl; have z1 := cell_at (o := 1) (heap_kept F7.out hB8) rfl; have z2 := cell_at (o := 2) (heap_kept F7.out hB8) rfl; have z3 := cell_at (o := 3) (heap_kept F7.out hB8) rfl; have z4 := cell_at (o := 4) (heap_kept F7.out hB8) rfl)
      | (go_at_call 10; refine (eqJson j _ _ (fun _ => True) (fun _ => True) _ ?_ ?_).mono ?_; exact (HJ2.out.later (HC7.out.drew.trans (hB8.mono HC7.out.size))).any; exact hJ3.any; rintro e w9 ⟨rfl, hB9⟩))
    all_goals
      have hb9 : Below w.heap.size w w9 := (HB7.out.drew.trans (hB8.mono HB7.out.size)).trans (hB9.mono (Nat.le_trans HB7.out.size hB8.size))
      clear hB8 hB9 x0 x1 x2 x3 x4 y0 y1 y2 y3 y4 hJ3
      go_wp2_with fail
      go_ret
      exact ⟨rfl, hb9⟩
set_option maxHeartbeats 3200000 in
theorem lawNodes (j : J) (cs : List Value) (w : World) (hr : RJ w (· < w.heap.size) j cs) :
    Calls Try.prog 5 #[.agg cs.toArray] w fun e w' => e = .returned (.bool true) ∧ Below w.heap.size w w' := by
  have HJ : Hid (RJ w (· < w.heap.size) j cs) := hr
  rw [RJ_eq] at hr
  obtain ⟨ka, kc, ia, ic, rfl, -⟩ := hr
  have hB0 : Below w.heap.size w (w.alloc (.cells #[.int .i64 j.k, .int .i64 j.n, .string ⟨j.t.toArray⟩, .slice ka j.keys.length kc, .slice ia j.items.length ic] 25)) := (Below.refl _ _).alloc (Nat.le_refl _) _
  have g0 := heap_new w (.cells #[.int .i64 j.k, .int .i64 j.n, .string ⟨j.t.toArray⟩, .slice ka j.keys.length kc, .slice ia j.items.length ic] 25)
  have G0 : Hid (_ = _) := g0
  clear g0
  go_enter Try.func5, Try.ntmps5
  go_wp2_with fail
  refine (szJson j _ 1048576 w.heap.size _ (by omega) (by omega) (by simp) (HJ.out.below hB0)).mono ?_
  rintro e w2 ⟨rfl, hB2⟩
  have g2 := heap_kept G0.out hB2
  have hb2 : Below w.heap.size w w2 := hB0.trans (hB2.mono (by simp))
  clear hB2 hB0 G0
  by_cases hz : (1048576 : Int) - (j.sz : Int) < 0
  · rw [less_no hz]
    clear g2
    go_wp2_with fail
    go_ret
    exact ⟨rfl, hb2⟩
  · rw [less_yes (by omega)]
    have hsz : j.sz ≤ 1048576 := by omega
    have x0 := cell_at (o := 0) g2 rfl
    have x1 := cell_at (o := 1) g2 rfl
    have x2 := cell_at (o := 2) g2 rfl
    have x3 := cell_at (o := 3) g2 rfl
    have x4 := cell_at (o := 4) g2 rfl
    have G2 : Hid (_ = _) := g2
    clear g2
    go_wp2_with fail
    refine (toJson j _ w.heap.size _ hb2.size hsz (HJ.out.below hb2)).mono ?_
    rintro e w3 ⟨cs1, rfl, hJ1, hB3⟩
    have g3 := heap_kept G2.out hB3
    have hb3 : Below w.heap.size w w3 := hb2.trans (hB3.mono hb2.size)
    clear x0 x1 x2 x3 x4 hB3 G2 hb2
    have G3 : Hid (_ = _) := g3
    clear g3
    go_wp2_with fail
    refine (jsonNodesS j cs1 _ _ hJ1).mono ?_
    rintro e w4 ⟨rfl, hB4⟩
    have g4 := heap_kept G3.out hB4
    have hb4 : Below w.heap.size w w4 := hb3.trans (hB4.mono hb3.size)
    clear hB4 G3 hb3 hJ1
    have x0 := cell_at (o := 0) g4 rfl
    have x1 := cell_at (o := 1) g4 rfl
    have x2 := cell_at (o := 2) g4 rfl
    have x3 := cell_at (o := 3) g4 rfl
    have x4 := cell_at (o := 4) g4 rfl
    have G4 : Hid (_ = _) := g4
    clear g4
    go_wp2_with fail
    refine (toJson j _ w.heap.size _ hb4.size hsz (HJ.out.below hb4)).mono ?_
    rintro e w5 ⟨cs2, rfl, hJ2, hB5⟩
    have HJ2 : Hid (RJ w5 (w4.heap.size ≤ ·) j cs2) := hJ2
    rw [RJ_eq] at hJ2
    obtain ⟨ka2, kc2, ia2, ic2, rfl, -⟩ := hJ2
    have g5 := heap_kept G4.out hB5
    have hb5 : Below w.heap.size w w5 := hb4.trans (hB5.mono hb4.size)
    clear x0 x1 x2 x3 x4 hB5 G4
    have G5 : Hid (_ = _) := g5
    clear g5
    go_wp2_with fail
    have hc6 : Below w5.heap.size w5 (w5.alloc (.cells #[.int .i64 j.k, .int .i64 j.n, .string ⟨j.t.toArray⟩, .slice ka2 j.keys.length kc2, .slice ia2 j.items.length ic2] 30)) := (Below.refl _ _).alloc (Nat.le_refl _) _
    have g6 := heap_alloc_kept (o' := .cells #[.int .i64 j.k, .int .i64 j.n, .string ⟨j.t.toArray⟩, .slice ka2 j.keys.length kc2, .slice ia2 j.items.length ic2] 30) G5.out
    have f6 := heap_new w5 (.cells #[.int .i64 j.k, .int .i64 j.n, .string ⟨j.t.toArray⟩, .slice ka2 j.keys.length kc2, .slice ia2 j.items.length ic2] 30)
    refine (jsonNodes j _ _ _ (HJ2.out.later hc6)).mono ?_
    rintro e w7 ⟨rfl, hB7⟩
    have g7 := heap_kept g6 hB7
    have f7 := heap_kept f6 hB7
    have hc7 : Below w5.heap.size w5 w7 := hc6.trans (hB7.mono (by simp))
    have hb7 : Below w.heap.size w w7 := hb5.trans (hc7.mono hb5.size)
    have x0 := cell_at (o := 0) g7 rfl
    have x1 := cell_at (o := 1) g7 rfl
    have x2 := cell_at (o := 2) g7 rfl
    have x3 := cell_at (o := 3) g7 rfl
    have x4 := cell_at (o := 4) g7 rfl
    have y0 := cell_at (o := 0) f7 rfl
    have y1 := cell_at (o := 1) f7 rfl
    have y2 := cell_at (o := 2) f7 rfl
    have y3 := cell_at (o := 3) f7 rfl
    have y4 := cell_at (o := 4) f7 rfl
    have HB7 : Hid (Below w.heap.size w w7) := hb7
    have HC7 : Hid (Below w5.heap.size w5 w7) := hc7
    have F7 : Hid (w7.drew.heap[w5.heap.size]? = some (.cells #[.int .i64 j.k, .int .i64 j.n, .string ⟨j.t.toArray⟩, .slice ka2 j.keys.length kc2, .slice ia2 j.items.length ic2] 30)) := f7
    clear hB7 hc6 g6 f6 g7 f7 G5 hb4 hb5 hb7 hc7
    generalize nodesI j = q at *
    generalize codeI j = q' at *
    have hq : (q != q) = false := by simp
    have hq' : (q' != q') = false := by simp
    go_wp2_with fail
    go_region_with (first
      | (go_at_call 8; refine (toJson j _ w.heap.size _ ?_ hsz ?_).mono ?_; exact HB7.out.size; exact HJ.out.below HB7.out.drew; rintro e w8 ⟨cs3, rfl, hJ3, hB8⟩; have z0 := cell_at (o := 0) (heap_kept F7.out hB8) rfl; have z1 := cell_at (o := 1) (heap_kept F7.out hB8) rfl; have z2 := cell_at (o := 2) (heap_kept F7.out hB8) rfl; have z3 := cell_at (o := 3) (heap_kept F7.out hB8) rfl; have z4 := cell_at (o := 4) (heap_kept F7.out hB8) rfl)
      | (go_at_call 10; refine (eqJson j _ _ (fun _ => True) (fun _ => True) _ ?_ ?_).mono ?_; exact (HJ2.out.later (HC7.out.drew.trans (hB8.mono HC7.out.size))).any; exact hJ3.any; rintro e w9 ⟨rfl, hB9⟩))
    all_goals
      have hb9 : Below w.heap.size w w9 := (HB7.out.drew.trans (hB8.mono HB7.out.size)).trans (hB9.mono (Nat.le_trans HB7.out.size hB8.size))
      clear hB8 hB9 x0 x1 x2 x3 x4 y0 y1 y2 y3 y4 hJ3
      go_wp2_with fail
      go_ret
      exact ⟨rfl, hb9⟩
end Go.Proofs.Ytolcaogggoklmaa
