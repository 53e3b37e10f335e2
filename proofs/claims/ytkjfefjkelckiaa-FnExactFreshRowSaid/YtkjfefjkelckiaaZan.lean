import Derived.Test.YtkjfefjkelckiaaZam
namespace Go.Proofs.Ytkjfefjkelckiaa
open Go.RowKit
set_option linter.unusedSimpArgs false
structure RowV where
  id : Int
  cells : List (List At)
def dRow (x : RowV) : Nat → D
  | 0 => .i x.id
  | _ => dAtomSS x.cells
set_option maxRecDepth 100000 in
set_option maxHeartbeats 1600000 in
theorem eqDRow (x : RowV) (a1 : Option Addr) (c1 : Nat) (a1' : Option Addr) (c1' : Nat) (A B : Nat → Prop) (w : World) (ho : ∀ j, j < 2 → (dRow x j).le maxLen) (r1 : Rd w A (dAtomSS x.cells) (.slice a1 x.cells.length c1)) (r1' : Rd w B (dAtomSS x.cells) (.slice a1' x.cells.length c1')) :
    Calls Try.prog 19 #[.agg #[.int .i64 x.id, .slice a1 x.cells.length c1], .agg #[.int .i64 x.id, .slice a1' x.cells.length c1']] w fun e w' => e = .returned (.bool true) ∧ Below w.heap.size w w' := by
  have hb : Box2D 50 w ((w.alloc (.cells #[.int .i64 x.id, .slice a1 x.cells.length c1] 50)).alloc (.cells #[.int .i64 x.id, .slice a1' x.cells.length c1'] 50)) #[.int .i64 x.id, .slice a1 x.cells.length c1] #[.int .i64 x.id, .slice a1' x.cells.length c1'] := box2D _ _ _ _
  have E1 : Hid (∀ W, Below w.heap.size w W → Calls Try.prog 58 #[.slice a1 x.cells.length c1, .slice a1' x.cells.length c1'] W fun e w' => e = .returned (.bool true) ∧ Below W.heap.size W w') := fun W h => eqDAtomSS x.cells a1 c1 a1' c1' A B W (ho 1 (by omega)) (r1.later h) (r1'.later h)
  have HB := Lib.hid hb
  clear ho hb r1 r1'
  go_enter Try.func19, Try.ntmps19
  have x0 := cell_at (o := 0) HB.out.a rfl
  have y0 := cell_at (o := 0) HB.out.b rfl
  have x1 := cell_at (o := 1) HB.out.a rfl
  have y1 := cell_at (o := 1) HB.out.b rfl
  go_wp2_with fail
  refine (E1.out _ HB.out.bel).mono ?_
  rintro e w2 ⟨rfl, hB1⟩
  have H1 := Lib.hid (HB.out.later hB1)
  clear hB1 HB x0 y0 x1 y1
  have x0 := cell_at (o := 0) H1.out.a rfl
  have y0 := cell_at (o := 0) H1.out.b rfl
  have x1 := cell_at (o := 1) H1.out.a rfl
  have y1 := cell_at (o := 1) H1.out.b rfl
  go_wp2_with fail
  go_ret
  exact ⟨rfl, H1.out.bel⟩
end Go.Proofs.Ytkjfefjkelckiaa
