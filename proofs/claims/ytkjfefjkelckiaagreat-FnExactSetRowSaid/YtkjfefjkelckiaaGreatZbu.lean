import Derived.Test.YtkjfefjkelckiaaGreatZbt
namespace Go.Proofs.YtkjfefjkelckiaaGreat
open Go.RowKit
set_option linter.unusedSimpArgs false
set_option maxRecDepth 100000 in
set_option maxHeartbeats 3200000 in
theorem mkDTable (x : Tb) (a1 : Option Addr) (c1 : Nat) (a2 : Option Addr) (c2 : Nat) (k : Nat) (B1 B2 : Nat → Prop) (w : World) (l1 : (dColumnS x.cols).le maxLen) (l2 : (dIntS x.uq).le maxLen) (h0 : 0 < k) (h1 : k + (dColumnS x.cols).wd + (dIntS x.uq).wd < 100000000000) (o1 : Own w (dColumnS x.cols) B1 (.slice a1 x.cols.length c1)) (o2 : Own w (dIntS x.uq) B2 (.slice a2 x.uq.length c2)) (n1_2 : ∀ b, B1 b → ¬ B2 b) (n2_1 : ∀ b, B2 b → ¬ B1 b) :
    Calls Tryz.prog 15 #[.agg #[.string ⟨x.nm.toArray⟩, .slice a1 x.cols.length c1, .slice a2 x.uq.length c2, .bool x.rt], .int .i64 k] w fun e w' => e = .returned (.int .i64 (k + (dColumnS x.cols).wd + (dIntS x.uq).wd : Nat)) ∧ (Own w' ((dColumnS x.cols).mkd (k)) B1 (.slice a1 x.cols.length c1) ∧ Own w' ((dIntS x.uq).mkd (k + (dColumnS x.cols).wd)) B2 (.slice a2 x.uq.length c2)) ∧ Frm (fun b => B1 b ∨ B2 b) w w' := by
  have hx := boxD 40 w #[.string ⟨x.nm.toArray⟩, .slice a1 x.cols.length c1, .slice a2 x.uq.length c2, .bool x.rt]
  have F0 : Hid (Frm (fun b => B1 b ∨ B2 b) w (w.alloc (.cells #[.string ⟨x.nm.toArray⟩, .slice a1 x.cols.length c1, .slice a2 x.uq.length c2, .bool x.rt] 40))) := Frm.of_below (below_allocD _ _)
  have O1 := Lib.hid ((Own.inside _ _ _ o1).later hx.2)
  have O2 := Lib.hid ((Own.inside _ _ _ o2).later hx.2)
  have x0 := cell_at (o := 0) hx.1 rfl
  have x1 := cell_at (o := 1) hx.1 rfl
  have x2 := cell_at (o := 2) hx.1 rfl
  have x3 := cell_at (o := 3) hx.1 rfl
  have HX := Lib.hid hx.1
  have L1 := Lib.hid l1
  have L2 := Lib.hid l2
  have D1_2 := Lib.hid n1_2
  have D2_1 := Lib.hid n2_1
  have HB := Lib.hid (And.intro h0 h1)
  clear hx h0 h1 o1 l1 o2 l2 n1_2 n2_1
  go_enter Tryz.func15, Tryz.ntmps15
  go_wp2_with fail
  refine (mkDColumnS x.cols a1 c1 (k) (fun b => B1 b ∧ b < w.heap.size) _ L1.out (by have := HB.out; omega) (by have := HB.out; omega) O1.out).mono ?_
  rintro e v1 ⟨rfl, p1, f1⟩
  have Q1 := Lib.hid p1
  have F2 : Hid (Frm (fun b => B1 b ∨ B2 b) w v1) := F0.out.trans (f1.mono (fun b h => .inl h.1))
  have P2 := Lib.hid (O2.out.frm f1 (fun b h h2 => D2_1.out b h.1 h2.1))
  clear O2
  have O2 := P2
  clear P2
  have hx : v1.heap[w.heap.size]? = some (.cells #[.string ⟨x.nm.toArray⟩, .slice a1 x.cols.length c1, .slice a2 x.uq.length c2, .bool x.rt] 40) := (f1.block _ (Array.getElem?_eq_some_iff.1 HX.out).1 (fun h => by have := h.2; omega)).trans HX.out
  clear p1 f1 F0 O1 HX x0 x1 x2 x3
  have HX1 := Lib.hid hx
  have x0 := cell_at (o := 0) hx rfl
  have x1 := cell_at (o := 1) hx rfl
  have x2 := cell_at (o := 2) hx rfl
  have x3 := cell_at (o := 3) hx rfl
  clear hx
  go_wp2_with fail
  refine (mkDIntS x.uq a2 c2 (k + (dColumnS x.cols).wd) (fun b => B2 b ∧ b < w.heap.size) _ L2.out (by have := HB.out; omega) (by have := HB.out; omega) O2.out).mono ?_
  rintro e v2 ⟨rfl, p2, f2⟩
  have Q2 := Lib.hid p2
  have F3 : Hid (Frm (fun b => B1 b ∨ B2 b) w v2) := F2.out.trans (f2.mono (fun b h => .inr h.1))
  have P1 := Lib.hid (Q1.out.frm f2 (fun b h h2 => D1_2.out b h.1 h2.1))
  clear Q1
  have Q1 := P1
  clear P1
  have hx : v2.heap[w.heap.size]? = some (.cells #[.string ⟨x.nm.toArray⟩, .slice a1 x.cols.length c1, .slice a2 x.uq.length c2, .bool x.rt] 40) := (f2.block _ (Array.getElem?_eq_some_iff.1 HX1.out).1 (fun h => by have := h.2; omega)).trans HX1.out
  clear p2 f2 F2 O2 HX1 x0 x1 x2 x3
  have HX2 := Lib.hid hx
  have x0 := cell_at (o := 0) hx rfl
  have x1 := cell_at (o := 1) hx rfl
  have x2 := cell_at (o := 2) hx rfl
  have x3 := cell_at (o := 3) hx rfl
  clear hx
  go_wp2_with fail
  go_ret
  exact ⟨rfl, ⟨Q1.out.mono (fun _ h => h.1), Q2.out.mono (fun _ h => h.1)⟩, F3.out⟩
end Go.Proofs.YtkjfefjkelckiaaGreat
