import Derived.Test.YtfpjnfhbooehbaaDoorPrI
import Derived.Test.YtfpjnfhbooehbaaDoorSz
import Derived.Test.YtfpjnfhbooehbaaDoorEq
import Derived.Deep.CutRange
namespace Go.Proofs.YtfpjnfhbooehbaaDoor
open Go.RowKit
set_option linter.unusedSimpArgs false
theorem neq_selfI (c : Int) : (c != c) = false := by simp
theorem RJ.any {w : World} {B : Nat → Prop} {j : J} {cs : List Value} (h : RJ w B j cs) : RJ w (fun _ => True) j cs := RJ.same (fun _ _ => rfl) (fun _ _ => trivial) j cs h
theorem RJ.cells {w : World} {j : J} {B : Nat → Prop} {cs : List Value} (h : RJ w B j cs) : ∃ ka kc ia ic, cs = [.int .i64 j.k, .int .i64 j.n, .string ⟨j.t.toArray⟩, .slice ka j.keys.length kc, .slice ia j.items.length ic] := by
  rw [RJ_eq] at h
  obtain ⟨ka, kc, ia, ic, e, -⟩ := h
  exact ⟨ka, kc, ia, ic, e⟩
/-- the law's argument in its box, what was there left as it was -/
def Box1 (w W : World) (o : Obj) : Prop := W.heap[w.heap.size]? = some o ∧ Below w.heap.size w W
theorem Box1.later {w W W' : World} {o : Obj} (h : Box1 w W o) (hB : Below W.heap.size W W') : Box1 w W' o := ⟨heap_kept0 h.1 hB, h.2.trans (hB.mono h.2.size)⟩
/-- and its copy at x0 -/
structure Mem1 (w W : World) (j : J) (o : Obj) (x0 : Nat) (csX : List Value) : Prop where
  box : Box1 w W o
  gx : W.heap[x0]? = some (.cells csX.toArray 31)
  rx : RJ W (fun _ => True) j csX
theorem Mem1.later {w W W' : World} {j : J} {o : Obj} {x0 : Nat} {csX : List Value} (h : Mem1 w W j o x0 csX) (hB : Below W.heap.size W W') : Mem1 w W' j o x0 csX :=
  ⟨h.box.later hB, heap_kept0 h.gx hB, h.rx.later hB⟩
set_option maxRecDepth 100000 in
set_option maxHeartbeats 6400000 in
theorem lawPrint (j : J) (cs : List Value) (w : World) (hr : RJ w (· < w.heap.size) j cs) (hT : Tab w w.heap.size) :
    Calls Tryd.prog 3 #[.agg cs.toArray] w fun e w' => e = .returned (.bool true) ∧ Below w.heap.size w w' := by
  have HJ : Hid (RJ w (· < w.heap.size) j cs) := hr
  have HT : Hid (Tab w w.heap.size) := hT
  rw [RJ_eq] at hr
  obtain ⟨ka, kc, ia, ic, rfl, -⟩ := hr
  clear hT
  have hx : Box1 w (w.alloc (.cells #[.int .i64 j.k, .int .i64 j.n, .string ⟨j.t.toArray⟩, .slice ka j.keys.length kc, .slice ia j.items.length ic] 25)) (.cells #[.int .i64 j.k, .int .i64 j.n, .string ⟨j.t.toArray⟩, .slice ka j.keys.length kc, .slice ia j.items.length ic] 25) := ⟨heap_new0 _ _, (Below.refl _ _).alloc (Nat.le_refl _) _⟩
  have x0 := cell_at (o := 0) hx.1 rfl
  have x1 := cell_at (o := 1) hx.1 rfl
  have x2 := cell_at (o := 2) hx.1 rfl
  have x3 := cell_at (o := 3) hx.1 rfl
  have x4 := cell_at (o := 4) hx.1 rfl
  go_enter Tryd.func3, Tryd.ntmps3
  go_wp2_with fail
  refine (szJson j _ 1048576 w.heap.size _ (by omega) (by omega) hx.2.size (HJ.out.below hx.2)).mono ?_
  rintro e w1 ⟨rfl, hB1⟩
  replace hx := hx.later hB1
  clear hB1 x0 x1 x2 x3 x4
  by_cases hz : (1048576 : Int) - (j.sz : Int) < 0
  · rw [less_no hz]
    go_wp2_with fail
    go_ret
    exact ⟨rfl, hx.2⟩
  rw [less_yes (by omega)]
  have hza : j.sz ≤ 1048576 := by omega
  obtain ⟨L, hL⟩ : ∃ L : Int, L = 1048576 - (j.sz : Int) := ⟨_, rfl⟩
  rw [← hL]
  have hl : decide (L < 0) = false := by simp; omega
  clear hL hz
  obtain ⟨T, hTT⟩ : ∃ T : ByteArray, T = ⟨(prA j).toArray⟩ := ⟨_, rfl⟩
  obtain ⟨C, hC⟩ : ∃ C, C = prC j := ⟨_, rfl⟩
  have TA : Hid (∀ W, Box1 w W (.cells #[.int .i64 j.k, .int .i64 j.n, .string ⟨j.t.toArray⟩, .slice ka j.keys.length kc, .slice ia j.items.length ic] 25) → Calls Tryd.prog 6 #[.agg #[.int .i64 j.k, .int .i64 j.n, .string ⟨j.t.toArray⟩, .slice ka j.keys.length kc, .slice ia j.items.length ic]] W fun e w' => ∃ c, e = .returned (.agg c.toArray) ∧ RJ w' (fun _ => True) j c ∧ Below W.heap.size W w' ∧ Box1 w w' (.cells #[.int .i64 j.k, .int .i64 j.n, .string ⟨j.t.toArray⟩, .slice ka j.keys.length kc, .slice ia j.items.length ic] 25)) := fun W h => (toJson j _ w.heap.size W h.2.size hza (HJ.out.below h.2)).mono (fun e w' ⟨c, he, hj, hB⟩ => ⟨c, he, hj.any, hB, h.later hB⟩)
  have SS : Hid (∀ (W : World) (ca : List Value), Below w.heap.size w W → RJ W (fun _ => True) j ca → Calls Tryd.prog 5 #[.agg ca.toArray] W fun e w' => e = .returned (.tuple #[.string T, .int .i64 C]) ∧ Below W.heap.size W w') := fun W ca hb h => by rw [hTT, hC]; exact printSpec j ca _ W h hza (HT.out.here hb)
  have SI : Hid (∀ (W : World) (ca : List Value), Below w.heap.size w W → RJ W (fun _ => True) j ca → Calls Tryd.prog 7 #[.agg ca.toArray] W fun e w' => e = .returned (.tuple #[.string T, .int .i64 C]) ∧ Below W.heap.size W w') := fun W ca hb h => by rw [hTT, hC]; exact printI j ca _ W h hza (HT.out.here hb)
  have hcc := neq_selfI C
  clear hTT hC hza HJ HT
  have x0 := cell_at (o := 0) hx.1 rfl
  have x1 := cell_at (o := 1) hx.1 rfl
  have x2 := cell_at (o := 2) hx.1 rfl
  have x3 := cell_at (o := 3) hx.1 rfl
  have x4 := cell_at (o := 4) hx.1 rfl
  go_wp2_with fail
  refine (TA.out _ hx).mono ?_
  rintro e w2 ⟨c2, rfl, hJ2, -, hx⟩
  have HJ2 : Hid (RJ w2 (fun _ => True) j c2) := hJ2
  clear hJ2 x0 x1 x2 x3 x4
  go_wp2_with fail
  refine (SS.out _ _ hx.2 HJ2.out).mono ?_
  rintro e w3 ⟨rfl, hB3⟩
  replace hx := hx.later hB3
  clear hB3 HJ2
  have x0 := cell_at (o := 0) hx.1 rfl
  have x1 := cell_at (o := 1) hx.1 rfl
  have x2 := cell_at (o := 2) hx.1 rfl
  have x3 := cell_at (o := 3) hx.1 rfl
  have x4 := cell_at (o := 4) hx.1 rfl
  go_wp2_with fail
  refine (TA.out _ hx).mono ?_
  rintro e w6 ⟨csX, rfl, hJX, -, hx⟩
  obtain ⟨kX, kcX, iX, icX, rfl⟩ := hJX.cells
  clear x0 x1 x2 x3 x4
  obtain ⟨w7, hw7⟩ : ∃ w7, w7 = w6.alloc (.cells #[.int .i64 j.k, .int .i64 j.n, .string ⟨j.t.toArray⟩, .slice kX j.keys.length kcX, .slice iX j.items.length icX] 31) := ⟨_, rfl⟩
  have h67 : Below w6.heap.size w6 w7 := by rw [hw7]; exact (Below.refl _ _).alloc (Nat.le_refl _) _
  have M9 : Hid (Mem1 w w7 j (.cells #[.int .i64 j.k, .int .i64 j.n, .string ⟨j.t.toArray⟩, .slice ka j.keys.length kc, .slice ia j.items.length ic] 25) w6.heap.size [.int .i64 j.k, .int .i64 j.n, .string ⟨j.t.toArray⟩, .slice kX j.keys.length kcX, .slice iX j.items.length icX]) := ⟨hx.later h67, by rw [hw7]; exact heap_new0 _ _, hJX.later h67⟩
  clear hx hJX h67
  go_upto_region 7 with fail
  rw [← hw7]
  clear hw7
  generalize w6.heap.size = x0 at *
  have u0 := cell_at (o := 0) M9.out.gx rfl
  have u1 := cell_at (o := 1) M9.out.gx rfl
  have u2 := cell_at (o := 2) M9.out.gx rfl
  have u3 := cell_at (o := 3) M9.out.gx rfl
  have u4 := cell_at (o := 4) M9.out.gx rfl
  go_wp2_with fail
  refine (SI.out _ _ M9.out.box.2 M9.out.rx).mono ?_
  rintro e w10 ⟨rfl, hB10⟩
  have M10 : Hid (Mem1 w w10 j _ x0 _) := M9.out.later hB10
  clear hB10 M9 u0 u1 u2 u3 u4
  go_upto_region 10 with fail
  go_cut [39] from 35 to 39 (fun s wx => s = .bool false ∧ Hid (Mem1 w wx j (.cells #[.int .i64 j.k, .int .i64 j.n, .string ⟨j.t.toArray⟩, .slice ka j.keys.length kc, .slice ia j.items.length ic] 25) x0 [.int .i64 j.k, .int .i64 j.n, .string ⟨j.t.toArray⟩, .slice kX j.keys.length kcX, .slice iX j.items.length icX]))
  case first =>
    have u0 := cell_at (o := 0) M10.out.gx rfl
    have u1 := cell_at (o := 1) M10.out.gx rfl
    have u2 := cell_at (o := 2) M10.out.gx rfl
    have u3 := cell_at (o := 3) M10.out.gx rfl
    have u4 := cell_at (o := 4) M10.out.gx rfl
    have v0 := cell_at (o := 0) M10.out.box.1 rfl
    have v1 := cell_at (o := 1) M10.out.box.1 rfl
    have v2 := cell_at (o := 2) M10.out.box.1 rfl
    have v3 := cell_at (o := 3) M10.out.box.1 rfl
    have v4 := cell_at (o := 4) M10.out.box.1 rfl
    have MD : Hid (Mem1 w _ j _ x0 _) := M10.out.later (Below.refl _ _).drew
    go_region_with (first
      | (go_at_call 6; refine (TA.out _ MD.out.box).mono ?_; rintro e w11 ⟨cs3, rfl, hJ3, hB11, -⟩; have MM : Hid (Mem1 w w11 j _ x0 _) := MD.out.later hB11; have u0 := cell_at (o := 0) MM.out.gx rfl; have u1 := cell_at (o := 1) MM.out.gx rfl; have u2 := cell_at (o := 2) MM.out.gx rfl; have u3 := cell_at (o := 3) MM.out.gx rfl; have u4 := cell_at (o := 4) MM.out.gx rfl; clear hB11)
      | (go_at_call 8; refine (eqJson j _ _ (fun _ => True) (fun _ => True) _ MM.out.rx hJ3).mono ?_; rintro e w12 ⟨rfl, hB12⟩))
    all_goals
      have HM : Hid (Mem1 w w12 j _ x0 _) := MM.out.later hB12
      clear hJ3 hB12 u0 u1 u2 u3 u4 v0 v1 v2 v3 v4
      go_wp2_with fail
      go_meet
      exact ⟨rfl, HM.out⟩
  case rest =>
    obtain ⟨rfl, M12⟩ := hcut
    clear M10
    go_wp2_with fail
    go_ret
    exact ⟨rfl, M12.out.box.2⟩
end Go.Proofs.YtfpjnfhbooehbaaDoor
