import Derived.Test.YtkjfefjkelckiaaGreatZaw
import Derived.Test.YtkjfefjkelckiaaGreatZbv
namespace Go.Proofs.YtkjfefjkelckiaaGreat
open Go.RowKit
set_option linter.unusedSimpArgs false
set_option maxRecDepth 100000 in
set_option maxHeartbeats 3200000 in
theorem mkDRow (x : RowV) (a1 : Option Addr) (c1 : Nat) (k : Nat) (B1 : Nat → Prop) (w : World) (l1 : (dAtomSS x.cells).le maxLen) (h0 : 0 < k) (h1 : k + (dAtomSS x.cells).wd < 100000000000) (o1 : Own w (dAtomSS x.cells) B1 (.slice a1 x.cells.length c1)) :
    Calls Tryz.prog 16 #[.agg #[.int .i64 x.id, .slice a1 x.cells.length c1], .int .i64 k] w fun e w' => e = .returned (.int .i64 (k + (dAtomSS x.cells).wd : Nat)) ∧ (Own w' ((dAtomSS x.cells).mkd (k)) B1 (.slice a1 x.cells.length c1)) ∧ Frm (fun b => B1 b) w w' := by
  have hx := boxD 35 w #[.int .i64 x.id, .slice a1 x.cells.length c1]
  have F0 : Hid (Frm (fun b => B1 b) w (w.alloc (.cells #[.int .i64 x.id, .slice a1 x.cells.length c1] 35))) := Frm.of_below (below_allocD _ _)
  have O1 := Lib.hid (o1.later hx.2)
  have HX0 := Lib.hid hx
  have x0 := cell_at (o := 0) hx.1 rfl
  have x1 := cell_at (o := 1) hx.1 rfl
  have L1 := Lib.hid l1
  have HB := Lib.hid (And.intro h0 h1)
  clear hx h0 h1 o1 l1
  go_enter Tryz.func16, Tryz.ntmps16
  go_wp2_with fail
  refine (mkDAtomSS x.cells a1 c1 (k) B1 _ L1.out (by have := HB.out; omega) (by have := HB.out; omega) O1.out).mono ?_
  rintro e v1 ⟨rfl, p1, f1⟩
  have Q1 := Lib.hid p1
  have F2 : Hid (Frm (fun b => B1 b) w v1) := F0.out.trans (f1.mono (fun b h => h))
  clear p1 f1 F0
  obtain ⟨b1, hb1⟩ : ∃ y : Nat, y = k + (dAtomSS x.cells).wd := ⟨_, rfl⟩
  go_wp2_with fail
  go_ret
  exact ⟨rfl, Q1.out, F2.out⟩
set_option maxRecDepth 100000 in
set_option maxHeartbeats 3200000 in
theorem hdDRow (x : RowV) (a1 : Option Addr) (c1 : Nat) (k : Nat) (B : Nat → Prop) (w : World) (l1 : (dAtomSS x.cells).le maxLen) (h0 : 0 < k) (h1 : k + (dAtomSS x.cells).wd < 100000000000) (r1 : Rd w B ((dAtomSS x.cells).mkd (k)) (.slice a1 x.cells.length c1)) :
    Calls Tryz.prog 18 #[.agg #[.int .i64 x.id, .slice a1 x.cells.length c1], .int .i64 k] w fun e w' => e = .returned (.int .i64 (k + (dAtomSS x.cells).wd : Nat)) ∧ Below w.heap.size w w' := by
  have hx := boxD 35 w #[.int .i64 x.id, .slice a1 x.cells.length c1]
  have R1 := Lib.hid r1
  have x0 := cell_at (o := 0) hx.1 rfl
  have x1 := cell_at (o := 1) hx.1 rfl
  have L1 := Lib.hid l1
  have HB := Lib.hid (And.intro h0 h1)
  clear h0 h1 r1 l1
  go_enter Tryz.func18, Tryz.ntmps18
  go_wp2_with fail
  refine (hdDAtomSS x.cells a1 c1 (k) B _ L1.out (by have := HB.out; omega) (by have := HB.out; omega) (R1.out.later hx.2)).mono ?_
  rintro e v1 ⟨rfl, hB1⟩
  have hx := hx.later hB1
  clear hB1 x0 x1
  have x0 := cell_at (o := 0) hx.1 rfl
  have x1 := cell_at (o := 1) hx.1 rfl
  have dk1 : decide (((k + (dAtomSS x.cells).wd : Nat) : Int) < 0) = false := decide_eq_false (by omega)
  generalize hz1 : k + (dAtomSS x.cells).wd = b1 at dk1 ⊢
  have HZ1 := Lib.hid hz1
  clear hz1
  go_wp2_with fail
  go_ret
  exact ⟨ret_i (by rw [HZ1.out]), hx.2⟩
end Go.Proofs.YtkjfefjkelckiaaGreat
