import Derived.Test.YtohlggpolchmaaaCIm
namespace Go.Proofs.Ytohlggpolchmaaa
open Go.RowKit
set_option linter.unusedSimpArgs false
theorem neq_selfC (c : Bool) : (c != c) = false := by simp
set_option maxRecDepth 100000 in
set_option maxHeartbeats 3200000 in
theorem lawColumnOK (x : Cl) (w : World) (ht : x.nm.length ≤ maxLen) (hr : x.rf.length ≤ maxLen) :
    Calls Try.prog 3 #[.agg #[.string ⟨x.nm.toArray⟩, .int .i64 x.k, .int .i64 x.mn, .int .i64 x.mx, .int .i64 x.lo, .int .i64 x.hi, .string ⟨x.rf.toArray⟩, .bool x.st]] w fun e w' => e = .returned (.bool true) ∧ Below w.heap.size w w' := by
  have HT : Hid (x.nm.length ≤ maxLen ∧ x.rf.length ≤ maxLen) := ⟨ht, hr⟩
  have hx := boxC 23 w x
  have HX := Lib.hid hx
  clear ht hr hx
  go_enter Try.func3, Try.ntmps3
  go_wp2_with fail
  refine (szColumn x 1048576 _ (by omega) (by omega) HT.out.1 HT.out.2).mono ?_
  rintro e w1 ⟨rfl, hB1⟩
  have HX1 := Lib.hid (HX.out.later hB1)
  clear hB1 HX
  by_cases hz : (1048576 : Int) - (x.sz : Int) < 0
  · rw [less_no hz]
    go_wp2_with fail
    go_ret
    exact ⟨rfl, HX1.out.2⟩
  rw [less_yes (by omega)]
  obtain ⟨L, hL⟩ : ∃ L : Int, L = 1048576 - (x.sz : Int) := ⟨_, rfl⟩
  rw [← hL]
  have hl0 : decide (L < 0) = false := by simp; omega
  clear hL hz
  have nn := neq_selfC (colB x)
  have AO : Hid (∀ W, Calls Try.prog 7 #[.agg #[.string ⟨x.nm.toArray⟩, .int .i64 x.k, .int .i64 x.mn, .int .i64 x.mx, .int .i64 x.lo, .int .i64 x.hi, .string ⟨x.rf.toArray⟩, .bool x.st]] W fun e w' => e = .returned (.bool (colB x)) ∧ Below W.heap.size W w') := fun W => columnOKs x W HT.out.1 HT.out.2
  have AI' : Hid (∀ W, Calls Try.prog 9 #[.agg #[.string ⟨x.nm.toArray⟩, .int .i64 x.k, .int .i64 x.mn, .int .i64 x.mx, .int .i64 x.lo, .int .i64 x.hi, .string ⟨x.rf.toArray⟩, .bool x.st]] W fun e w' => e = .returned (.bool (colB x)) ∧ Below W.heap.size W w') := fun W => columnOKi x W HT.out.1 HT.out.2
  generalize colB x = q at *
  have x0 := cell_at (o := 0) HX1.out.1 rfl
  have x1 := cell_at (o := 1) HX1.out.1 rfl
  have x2 := cell_at (o := 2) HX1.out.1 rfl
  have x3 := cell_at (o := 3) HX1.out.1 rfl
  have x4 := cell_at (o := 4) HX1.out.1 rfl
  have x5 := cell_at (o := 5) HX1.out.1 rfl
  have x6 := cell_at (o := 6) HX1.out.1 rfl
  have x7 := cell_at (o := 7) HX1.out.1 rfl
  go_wp2_with fail
  refine (toColumn x _).mono ?_
  rintro e w2 ⟨rfl, hB2⟩
  have HX2 := Lib.hid (HX1.out.later hB2)
  clear hB2 HX1 x0 x1 x2 x3 x4 x5 x6 x7
  go_wp2_with fail
  refine (AO.out _).mono ?_
  rintro e w3 ⟨rfl, hB3⟩
  have HX3 := Lib.hid (HX2.out.later hB3)
  clear hB3 HX2
  have x0 := cell_at (o := 0) HX3.out.1 rfl
  have x1 := cell_at (o := 1) HX3.out.1 rfl
  have x2 := cell_at (o := 2) HX3.out.1 rfl
  have x3 := cell_at (o := 3) HX3.out.1 rfl
  have x4 := cell_at (o := 4) HX3.out.1 rfl
  have x5 := cell_at (o := 5) HX3.out.1 rfl
  have x6 := cell_at (o := 6) HX3.out.1 rfl
  have x7 := cell_at (o := 7) HX3.out.1 rfl
  go_wp2_with fail
  refine (toColumn x _).mono ?_
  rintro e w4 ⟨rfl, hB4⟩
  have HX4 := Lib.hid (HX3.out.later hB4)
  clear hB4 HX3 x0 x1 x2 x3 x4 x5 x6 x7
  go_wp2_with fail
  refine (AI'.out _).mono ?_
  rintro e w5 ⟨rfl, hB5⟩
  have HX5 := Lib.hid (HX4.out.later hB5)
  clear hB5 HX4
  go_wp2_with fail
  go_ret
  exact ⟨rfl, HX5.out.2⟩
end Go.Proofs.Ytohlggpolchmaaa
