import Derived.Test.YtphonhokjhgacaaSameC
import Derived.Deep.CutRange
namespace Go.Proofs.Ytphonhokjhgacaa
open Go.RowKit
set_option linter.unusedSimpArgs false
theorem neq_selfB (c : Bool) : (c != c) = false := by simp
theorem RJ.any {w : World} {B : Nat → Prop} {j : J} {cs : List Value} (h : RJ w B j cs) : RJ w (fun _ => True) j cs := RJ.same (fun _ _ => rfl) (fun _ _ => trivial) j cs h
theorem RJ.cells {w : World} {j : J} {B : Nat → Prop} {cs : List Value} (h : RJ w B j cs) : ∃ ka kc ia ic, cs = [.int .i64 j.k, .int .i64 j.n, .string ⟨j.t.toArray⟩, .slice ka j.keys.length kc, .slice ia j.items.length ic] := by
  rw [RJ_eq] at h
  obtain ⟨ka, kc, ia, ic, e, -⟩ := h
  exact ⟨ka, kc, ia, ic, e⟩
/-- what the law holds in memory: its two arguments, and their copies at x0 and y0 -/
structure Mem2 (w W : World) (a b : J) (oa ob : Obj) (x0 y0 : Nat) (csX csY : List Value) : Prop where
  box : Box2 w W oa ob
  gx : W.heap[x0]? = some (.cells csX.toArray 30)
  gy : W.heap[y0]? = some (.cells csY.toArray 30)
  rx : RJ W (fun _ => True) a csX
  ry : RJ W (fun _ => True) b csY
theorem Mem2.later {w W W' : World} {a b : J} {oa ob : Obj} {x0 y0 : Nat} {csX csY : List Value} (h : Mem2 w W a b oa ob x0 y0 csX csY) (hB : Below W.heap.size W W') : Mem2 w W' a b oa ob x0 y0 csX csY :=
  ⟨h.box.later hB, heap_kept0 h.gx hB, heap_kept0 h.gy hB, h.rx.later hB, h.ry.later hB⟩
set_option maxRecDepth 100000 in
set_option maxHeartbeats 6400000 in
theorem lawSame (a b : J) (cs cs' : List Value) (w : World) (hr : RJ w (· < w.heap.size) a cs) (hr' : RJ w (· < w.heap.size) b cs') :
    Calls Try.prog 3 #[.agg cs.toArray, .agg cs'.toArray] w fun e w' => e = .returned (.bool true) ∧ Below w.heap.size w w' := by
  have HA : Hid (RJ w (· < w.heap.size) a cs) := hr
  have HB : Hid (RJ w (· < w.heap.size) b cs') := hr'
  rw [RJ_eq] at hr hr'
  obtain ⟨ka, kca, ia, ica, rfl, -⟩ := hr
  obtain ⟨kb, kcb, ib, icb, rfl, -⟩ := hr'
  have hx : Box2 w ((w.alloc (.cells #[.int .i64 a.k, .int .i64 a.n, .string ⟨a.t.toArray⟩, .slice ka a.keys.length kca, .slice ia a.items.length ica] 25)).alloc (.cells #[.int .i64 b.k, .int .i64 b.n, .string ⟨b.t.toArray⟩, .slice kb b.keys.length kcb, .slice ib b.items.length icb] 25)) (.cells #[.int .i64 a.k, .int .i64 a.n, .string ⟨a.t.toArray⟩, .slice ka a.keys.length kca, .slice ia a.items.length ica] 25) (.cells #[.int .i64 b.k, .int .i64 b.n, .string ⟨b.t.toArray⟩, .slice kb b.keys.length kcb, .slice ib b.items.length icb] 25) := box2 _ _ _
  have x0 := cell_at (o := 0) hx.1 rfl
  have x1 := cell_at (o := 1) hx.1 rfl
  have x2 := cell_at (o := 2) hx.1 rfl
  have x3 := cell_at (o := 3) hx.1 rfl
  have x4 := cell_at (o := 4) hx.1 rfl
  have y0 := cell_at (o := 0) hx.2.1 rfl
  have y1 := cell_at (o := 1) hx.2.1 rfl
  have y2 := cell_at (o := 2) hx.2.1 rfl
  have y3 := cell_at (o := 3) hx.2.1 rfl
  have y4 := cell_at (o := 4) hx.2.1 rfl
  go_enter Try.func3, Try.ntmps3
  go_wp2_with fail
  refine (szJson a _ 1048576 w.heap.size _ (by omega) (by omega) hx.2.2.size (HA.out.below hx.2.2)).mono ?_
  rintro e w1 ⟨rfl, hB1⟩
  replace hx := hx.later hB1
  clear hB1 x0 x1 x2 x3 x4 y0 y1 y2 y3 y4
  by_cases hz : (1048576 : Int) - (a.sz : Int) < 0
  · rw [less_no hz]
    go_wp2_with fail
    go_ret
    exact ⟨rfl, hx.2.2⟩
  rw [less_yes (by omega)]
  have hza : a.sz ≤ 1048576 := by omega
  obtain ⟨L, hL⟩ : ∃ L : Int, L = 1048576 - (a.sz : Int) := ⟨_, rfl⟩
  rw [← hL]
  have hL0 : 0 ≤ L := by omega
  have hL1 : L ≤ 1048576 := by omega
  have hl : decide (L < 0) = false := by simp; omega
  clear hL hz
  have x0 := cell_at (o := 0) hx.1 rfl
  have x1 := cell_at (o := 1) hx.1 rfl
  have x2 := cell_at (o := 2) hx.1 rfl
  have x3 := cell_at (o := 3) hx.1 rfl
  have x4 := cell_at (o := 4) hx.1 rfl
  have y0 := cell_at (o := 0) hx.2.1 rfl
  have y1 := cell_at (o := 1) hx.2.1 rfl
  have y2 := cell_at (o := 2) hx.2.1 rfl
  have y3 := cell_at (o := 3) hx.2.1 rfl
  have y4 := cell_at (o := 4) hx.2.1 rfl
  go_wp2_with fail
  refine (szJson b _ L w.heap.size _ hL0 hL1 hx.2.2.size (HB.out.below hx.2.2)).mono ?_
  rintro e w2 ⟨rfl, hB2⟩
  replace hx := hx.later hB2
  clear hB2 x0 x1 x2 x3 x4 y0 y1 y2 y3 y4
  by_cases hz : L - (b.sz : Int) < 0
  · rw [less_no hz]
    go_wp2_with fail
    go_ret
    exact ⟨rfl, hx.2.2⟩
  rw [less_yes (by omega)]
  have hzb : b.sz ≤ 1048576 := by omega
  obtain ⟨M, hM⟩ : ∃ M : Int, M = L - (b.sz : Int) := ⟨_, rfl⟩
  rw [← hM]
  have hm : decide (M < 0) = false := by simp; omega
  clear hM hz hL0 hL1 hl
  obtain ⟨sv, hsv⟩ : ∃ s, s = sameA a b := ⟨_, rfl⟩
  have TA : Hid (∀ W, Box2 w W (.cells #[.int .i64 a.k, .int .i64 a.n, .string ⟨a.t.toArray⟩, .slice ka a.keys.length kca, .slice ia a.items.length ica] 25) (.cells #[.int .i64 b.k, .int .i64 b.n, .string ⟨b.t.toArray⟩, .slice kb b.keys.length kcb, .slice ib b.items.length icb] 25) → Calls Try.prog 6 #[.agg #[.int .i64 a.k, .int .i64 a.n, .string ⟨a.t.toArray⟩, .slice ka a.keys.length kca, .slice ia a.items.length ica]] W fun e w' => ∃ c, e = .returned (.agg c.toArray) ∧ RJ w' (fun _ => True) a c ∧ Below W.heap.size W w' ∧ Box2 w w' (.cells #[.int .i64 a.k, .int .i64 a.n, .string ⟨a.t.toArray⟩, .slice ka a.keys.length kca, .slice ia a.items.length ica] 25) (.cells #[.int .i64 b.k, .int .i64 b.n, .string ⟨b.t.toArray⟩, .slice kb b.keys.length kcb, .slice ib b.items.length icb] 25)) := fun W h => (toJson a _ w.heap.size W h.2.2.size hza (HA.out.below h.2.2)).mono (fun e w' ⟨c, he, hj, hB⟩ => ⟨c, he, hj.any, hB, h.later hB⟩)
  have TB : Hid (∀ W, Box2 w W (.cells #[.int .i64 a.k, .int .i64 a.n, .string ⟨a.t.toArray⟩, .slice ka a.keys.length kca, .slice ia a.items.length ica] 25) (.cells #[.int .i64 b.k, .int .i64 b.n, .string ⟨b.t.toArray⟩, .slice kb b.keys.length kcb, .slice ib b.items.length icb] 25) → Calls Try.prog 6 #[.agg #[.int .i64 b.k, .int .i64 b.n, .string ⟨b.t.toArray⟩, .slice kb b.keys.length kcb, .slice ib b.items.length icb]] W fun e w' => ∃ c, e = .returned (.agg c.toArray) ∧ RJ w' (fun _ => True) b c ∧ Below W.heap.size W w' ∧ Box2 w w' (.cells #[.int .i64 a.k, .int .i64 a.n, .string ⟨a.t.toArray⟩, .slice ka a.keys.length kca, .slice ia a.items.length ica] 25) (.cells #[.int .i64 b.k, .int .i64 b.n, .string ⟨b.t.toArray⟩, .slice kb b.keys.length kcb, .slice ib b.items.length icb] 25)) := fun W h => (toJson b _ w.heap.size W h.2.2.size hzb (HB.out.below h.2.2)).mono (fun e w' ⟨c, he, hj, hB⟩ => ⟨c, he, hj.any, hB, h.later hB⟩)
  have SS : Hid (∀ (W : World) (ca cb : List Value), RJ W (fun _ => True) a ca → RJ W (fun _ => True) b cb → Calls Try.prog 5 #[.agg ca.toArray, .agg cb.toArray] W fun e w' => e = .returned (.bool sv) ∧ Below W.heap.size W w') := fun W ca cb h h' => by rw [hsv]; exact sameS a b ca cb _ _ W h h' hza hzb
  have SI : Hid (∀ (W : World) (ca cb : List Value), RJ W (fun _ => True) a ca → RJ W (fun _ => True) b cb → Calls Try.prog 7 #[.agg ca.toArray, .agg cb.toArray] W fun e w' => e = .returned (.bool sv) ∧ Below W.heap.size W w') := fun W ca cb h h' => by rw [hsv]; exact sameI a b ca cb _ _ W h h' hza hzb
  have hnn := neq_selfB sv
  clear hsv hza hzb HA HB
  have x0 := cell_at (o := 0) hx.1 rfl
  have x1 := cell_at (o := 1) hx.1 rfl
  have x2 := cell_at (o := 2) hx.1 rfl
  have x3 := cell_at (o := 3) hx.1 rfl
  have x4 := cell_at (o := 4) hx.1 rfl
  have y0 := cell_at (o := 0) hx.2.1 rfl
  have y1 := cell_at (o := 1) hx.2.1 rfl
  have y2 := cell_at (o := 2) hx.2.1 rfl
  have y3 := cell_at (o := 3) hx.2.1 rfl
  have y4 := cell_at (o := 4) hx.2.1 rfl
  go_upto_region 8 with fail
  go_cut [6] from 20 to 24 (fun s wx => s = .bool sv ∧ Hid (Box2 w wx (.cells #[.int .i64 a.k, .int .i64 a.n, .string ⟨a.t.toArray⟩, .slice ka a.keys.length kca, .slice ia a.items.length ica] 25) (.cells #[.int .i64 b.k, .int .i64 b.n, .string ⟨b.t.toArray⟩, .slice kb b.keys.length kcb, .slice ib b.items.length icb] 25)))
  case first =>
    go_region_with (first
      | (go_at_call 6; (with_reducible refine (TA.out _ ?_).mono ?_); (first | exact hx | exact hx.drew); rintro e w3 ⟨ca, rfl, hJa, hBz, hx⟩; (try have hJb := hJb.later hBz); have x0 := cell_at (o := 0) hx.1 rfl; have x1 := cell_at (o := 1) hx.1 rfl; have x2 := cell_at (o := 2) hx.1 rfl; have x3 := cell_at (o := 3) hx.1 rfl; have x4 := cell_at (o := 4) hx.1 rfl; have y0 := cell_at (o := 0) hx.2.1 rfl; have y1 := cell_at (o := 1) hx.2.1 rfl; have y2 := cell_at (o := 2) hx.2.1 rfl; have y3 := cell_at (o := 3) hx.2.1 rfl; have y4 := cell_at (o := 4) hx.2.1 rfl; clear hBz)
      | (go_at_call 6; (with_reducible refine (TB.out _ ?_).mono ?_); (first | exact hx | exact hx.drew); rintro e w3 ⟨cb, rfl, hJb, hBz, hx⟩; (try have hJa := hJa.later hBz); have x0 := cell_at (o := 0) hx.1 rfl; have x1 := cell_at (o := 1) hx.1 rfl; have x2 := cell_at (o := 2) hx.1 rfl; have x3 := cell_at (o := 3) hx.1 rfl; have x4 := cell_at (o := 4) hx.1 rfl; have y0 := cell_at (o := 0) hx.2.1 rfl; have y1 := cell_at (o := 1) hx.2.1 rfl; have y2 := cell_at (o := 2) hx.2.1 rfl; have y3 := cell_at (o := 3) hx.2.1 rfl; have y4 := cell_at (o := 4) hx.2.1 rfl; clear hBz)
      | (go_at_call 5; (with_reducible refine (SS.out _ _ _ hJa hJb).mono ?_); rintro e w4 ⟨rfl, hB4⟩; replace hx := hx.later hB4))
    all_goals
      have HX : Hid (Box2 w _ _ _) := hx
      clear hx hB4 hJa hJb
      clear x0 x1 x2 x3 x4 y0 y1 y2 y3 y4
      go_wp2_with fail
      go_meet
      exact ⟨rfl, HX.out⟩
  case rest =>
    clear hx x0 x1 x2 x3 x4 y0 y1 y2 y3 y4
    obtain ⟨rfl, HX⟩ := hcut
    have x0 := cell_at (o := 0) HX.out.1 rfl
    have x1 := cell_at (o := 1) HX.out.1 rfl
    have x2 := cell_at (o := 2) HX.out.1 rfl
    have x3 := cell_at (o := 3) HX.out.1 rfl
    have x4 := cell_at (o := 4) HX.out.1 rfl
    go_wp2_with fail
    refine (TA.out _ HX.out).mono ?_
    rintro e w6 ⟨csX, rfl, hJX, -, hx⟩
    obtain ⟨kX, kcX, iX, icX, rfl⟩ := hJX.cells
    clear HX x0 x1 x2 x3 x4
    obtain ⟨w7, hw7⟩ : ∃ w7, w7 = w6.alloc (.cells #[.int .i64 a.k, .int .i64 a.n, .string ⟨a.t.toArray⟩, .slice kX a.keys.length kcX, .slice iX a.items.length icX] 30) := ⟨_, rfl⟩
    have h67 : Below w6.heap.size w6 w7 := by rw [hw7]; exact (Below.refl _ _).alloc (Nat.le_refl _) _
    have GX : Hid (w7.heap[w6.heap.size]? = some (.cells #[.int .i64 a.k, .int .i64 a.n, .string ⟨a.t.toArray⟩, .slice kX a.keys.length kcX, .slice iX a.items.length icX] 30)) := by show w7.heap[w6.heap.size]? = _; rw [hw7]; exact heap_new0 _ _
    have HX : Hid (Box2 w w7 _ _) := hx.later h67
    have RX : Hid (RJ w7 (fun _ => True) a _) := hJX.later h67
    clear hx hJX h67
    go_upto_region 10 with fail
    rw [← hw7]
    clear hw7
    generalize w6.heap.size = x0 at *
    have y0 := cell_at (o := 0) HX.out.2.1 rfl
    have y1 := cell_at (o := 1) HX.out.2.1 rfl
    have y2 := cell_at (o := 2) HX.out.2.1 rfl
    have y3 := cell_at (o := 3) HX.out.2.1 rfl
    have y4 := cell_at (o := 4) HX.out.2.1 rfl
    go_wp2_with fail
    refine (TB.out _ HX.out).mono ?_
    rintro e w8 ⟨csY, rfl, hJY, hB8, hx⟩
    obtain ⟨kY, kcY, iY, icY, rfl⟩ := hJY.cells
    clear y0 y1 y2 y3 y4
    obtain ⟨w9, hw9⟩ : ∃ w9, w9 = w8.alloc (.cells #[.int .i64 b.k, .int .i64 b.n, .string ⟨b.t.toArray⟩, .slice kY b.keys.length kcY, .slice iY b.items.length icY] 30) := ⟨_, rfl⟩
    have h89 : Below w8.heap.size w8 w9 := by rw [hw9]; exact (Below.refl _ _).alloc (Nat.le_refl _) _
    have M9 : Hid (Mem2 w w9 a b _ _ x0 w8.heap.size [.int .i64 a.k, .int .i64 a.n, .string ⟨a.t.toArray⟩, .slice kX a.keys.length kcX, .slice iX a.items.length icX] [.int .i64 b.k, .int .i64 b.n, .string ⟨b.t.toArray⟩, .slice kY b.keys.length kcY, .slice iY b.items.length icY]) := ⟨hx.later h89, heap_kept0 (heap_kept0 GX.out hB8) h89, by rw [hw9]; exact heap_new0 _ _, (RX.out.later hB8).later h89, hJY.later h89⟩
    clear hx hJY h89 hB8 HX GX RX
    go_upto_region 11 with fail
    rw [← hw9]
    clear hw9
    generalize w8.heap.size = y0 at *
    have u0 := cell_at (o := 0) M9.out.gx rfl
    have u1 := cell_at (o := 1) M9.out.gx rfl
    have u2 := cell_at (o := 2) M9.out.gx rfl
    have u3 := cell_at (o := 3) M9.out.gx rfl
    have u4 := cell_at (o := 4) M9.out.gx rfl
    have v0 := cell_at (o := 0) M9.out.gy rfl
    have v1 := cell_at (o := 1) M9.out.gy rfl
    have v2 := cell_at (o := 2) M9.out.gy rfl
    have v3 := cell_at (o := 3) M9.out.gy rfl
    have v4 := cell_at (o := 4) M9.out.gy rfl
    go_wp2_with fail
    refine (SI.out _ _ _ M9.out.rx M9.out.ry).mono ?_
    rintro e w10 ⟨rfl, hB10⟩
    have M10 : Hid (Mem2 w w10 a b _ _ x0 y0 _ _) := M9.out.later hB10
    clear hB10 M9 u0 u1 u2 u3 u4 v0 v1 v2 v3 v4
    go_upto_region 14 with fail
    go_cut [39] from 35 to 39 (fun s wx => s = .bool false ∧ Hid (Mem2 w wx a b (.cells #[.int .i64 a.k, .int .i64 a.n, .string ⟨a.t.toArray⟩, .slice ka a.keys.length kca, .slice ia a.items.length ica] 25) (.cells #[.int .i64 b.k, .int .i64 b.n, .string ⟨b.t.toArray⟩, .slice kb b.keys.length kcb, .slice ib b.items.length icb] 25) x0 y0 [.int .i64 a.k, .int .i64 a.n, .string ⟨a.t.toArray⟩, .slice kX a.keys.length kcX, .slice iX a.items.length icX] [.int .i64 b.k, .int .i64 b.n, .string ⟨b.t.toArray⟩, .slice kY b.keys.length kcY, .slice iY b.items.length icY]))
    case first =>
      have u0 := cell_at (o := 0) M10.out.gx rfl
      have u1 := cell_at (o := 1) M10.out.gx rfl
      have u2 := cell_at (o := 2) M10.out.gx rfl
      have u3 := cell_at (o := 3) M10.out.gx rfl
      have u4 := cell_at (o := 4) M10.out.gx rfl
      have v0 := cell_at (o := 0) M10.out.box.1 rfl
      have v1 := cell_at (o := 1) M10.out.box.1 rfl
      have v2 := cell_at (o := 2) M10.out.box.1 rfl
      have v3 := cell_at (o := 3) M10.out.box.1 rfl
      have v4 := cell_at (o := 4) M10.out.box.1 rfl
      have MD : Hid (Mem2 w _ a b _ _ x0 y0 _ _) := M10.out.later (Below.refl _ _).drew
      go_region_with (first
        | (go_at_call 6; refine (TA.out _ MD.out.box).mono ?_; rintro e w11 ⟨cs3, rfl, hJ3, hB11, -⟩; have MM : Hid (Mem2 w w11 a b _ _ x0 y0 _ _) := MD.out.later hB11; have u0 := cell_at (o := 0) MM.out.gx rfl; have u1 := cell_at (o := 1) MM.out.gx rfl; have u2 := cell_at (o := 2) MM.out.gx rfl; have u3 := cell_at (o := 3) MM.out.gx rfl; have u4 := cell_at (o := 4) MM.out.gx rfl; clear hB11)
        | (go_at_call 8; refine (eqJson a _ _ (fun _ => True) (fun _ => True) _ MM.out.rx hJ3).mono ?_; rintro e w12 ⟨rfl, hB12⟩))
      all_goals
        have HM : Hid (Mem2 w w12 a b _ _ x0 y0 _ _) := MM.out.later hB12
        clear hJ3 hB12 u0 u1 u2 u3 u4 v0 v1 v2 v3 v4
        go_wp2_with fail
        go_meet
        exact ⟨rfl, HM.out⟩
    case rest =>
      obtain ⟨rfl, M12⟩ := hcut
      clear M10
      go_upto_region 16 with fail
      go_cut [44] from 40 to 44 (fun s wx => s = .bool false ∧ Hid (Mem2 w wx a b (.cells #[.int .i64 a.k, .int .i64 a.n, .string ⟨a.t.toArray⟩, .slice ka a.keys.length kca, .slice ia a.items.length ica] 25) (.cells #[.int .i64 b.k, .int .i64 b.n, .string ⟨b.t.toArray⟩, .slice kb b.keys.length kcb, .slice ib b.items.length icb] 25) x0 y0 [.int .i64 a.k, .int .i64 a.n, .string ⟨a.t.toArray⟩, .slice kX a.keys.length kcX, .slice iX a.items.length icX] [.int .i64 b.k, .int .i64 b.n, .string ⟨b.t.toArray⟩, .slice kY b.keys.length kcY, .slice iY b.items.length icY]))
      case first =>
        have u0 := cell_at (o := 0) M12.out.gy rfl
        have u1 := cell_at (o := 1) M12.out.gy rfl
        have u2 := cell_at (o := 2) M12.out.gy rfl
        have u3 := cell_at (o := 3) M12.out.gy rfl
        have u4 := cell_at (o := 4) M12.out.gy rfl
        have v0 := cell_at (o := 0) M12.out.box.2.1 rfl
        have v1 := cell_at (o := 1) M12.out.box.2.1 rfl
        have v2 := cell_at (o := 2) M12.out.box.2.1 rfl
        have v3 := cell_at (o := 3) M12.out.box.2.1 rfl
        have v4 := cell_at (o := 4) M12.out.box.2.1 rfl
        have MD : Hid (Mem2 w _ a b _ _ x0 y0 _ _) := M12.out.later (Below.refl _ _).drew
        go_region_with (first
          | (go_at_call 6; refine (TB.out _ MD.out.box).mono ?_; rintro e w11 ⟨cs3, rfl, hJ3, hB11, -⟩; have MM : Hid (Mem2 w w11 a b _ _ x0 y0 _ _) := MD.out.later hB11; have u0 := cell_at (o := 0) MM.out.gy rfl; have u1 := cell_at (o := 1) MM.out.gy rfl; have u2 := cell_at (o := 2) MM.out.gy rfl; have u3 := cell_at (o := 3) MM.out.gy rfl; have u4 := cell_at (o := 4) MM.out.gy rfl; clear hB11)
          | (go_at_call 8; refine (eqJson b _ _ (fun _ => True) (fun _ => True) _ MM.out.ry hJ3).mono ?_; rintro e w12 ⟨rfl, hB12⟩))
        all_goals
          have HM : Hid (Mem2 w w12 a b _ _ x0 y0 _ _) := MM.out.later hB12
          clear hJ3 hB12 u0 u1 u2 u3 u4 v0 v1 v2 v3 v4
          go_wp2_with fail
          go_meet
          exact ⟨rfl, HM.out⟩
      case rest =>
        obtain ⟨rfl, M14⟩ := hcut
        clear M12
        go_wp2_with fail
        go_ret
        exact ⟨rfl, M14.out.box.2.2⟩
end Go.Proofs.Ytphonhokjhgacaa
