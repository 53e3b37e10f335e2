import Derived.Test.YtooiejlbnddfmaaFOkS
namespace Go.Proofs.Ytooiejlbnddfmaa
open Go.RowKit
set_option linter.unusedSimpArgs false
/-- the law's argument in its box -/
def frL (f : Fr) : Obj := .cells #[.string ⟨f.buf.toArray⟩, .int .i64 f.d, .bool f.q, .bool f.s, .bool f.c] 23
theorem frL_cell {W : World} {k : Nat} {f : Fr} (h : W.heap[k]? = some (frL f)) : W.cell? ⟨k, 0, none⟩ = some (.string ⟨f.buf.toArray⟩) ∧ W.cell? ⟨k, 1, none⟩ = some (.int .i64 f.d) ∧ W.cell? ⟨k, 2, none⟩ = some (.bool f.q) ∧ W.cell? ⟨k, 3, none⟩ = some (.bool f.s) ∧ W.cell? ⟨k, 4, none⟩ = some (.bool f.c) :=
  ⟨cell_at (o := 0) h rfl, cell_at (o := 1) h rfl, cell_at (o := 2) h rfl, cell_at (o := 3) h rfl, cell_at (o := 4) h rfl⟩
def BoxF (w W : World) (f : Fr) : Prop := W.heap[w.heap.size]? = some (frL f) ∧ Below w.heap.size w W
theorem BoxF.later {w W W' : World} {f : Fr} (h : BoxF w W f) (hB : Below W.heap.size W W') : BoxF w W' f := ⟨kept h.1 hB, h.2.trans (hB.mono h.2.size)⟩
theorem BoxF.new (w : World) (f : Fr) : BoxF w (w.alloc (frL f)) f := ⟨heap_new' _ _, (Below.refl _ _).alloc (Nat.le_refl _) _⟩
theorem neq_selfFB (c : Bool) : (c != c) = false := by simp
set_option maxRecDepth 100000 in
set_option maxHeartbeats 3200000 in
theorem lawFramerOK (f : Fr) (w : World) (ht : f.buf.length ≤ maxLen) :
    Calls Try.prog 3 #[.agg #[.string ⟨f.buf.toArray⟩, .int .i64 f.d, .bool f.q, .bool f.s, .bool f.c]] w fun e w' => e = .returned (.bool true) ∧ Below w.heap.size w w' := by
  have HT : Hid (f.buf.length ≤ maxLen) := ht
  have HX := Lib.hid (BoxF.new w f)
  clear ht
  go_enter Try.func3, Try.ntmps3
  go_wp2_with fail
  refine (szFr f 1048576 _ (by omega) (by omega) HT.out).mono ?_
  rintro e w1 ⟨rfl, hB1⟩
  have HX1 := Lib.hid (HX.out.later hB1)
  clear hB1 HX
  by_cases hz : (1048576 : Int) - (f.buf.length : Int) < 0
  · rw [less_no hz]
    go_wp2_with fail
    go_ret
    exact ⟨rfl, HX1.out.2⟩
  rw [less_yes (by omega)]
  have hlen : f.buf.length ≤ 10000000 := by omega
  obtain ⟨L, hL⟩ : ∃ L : Int, L = 1048576 - (f.buf.length : Int) := ⟨_, rfl⟩
  rw [← hL]
  have hl0 : decide (L < 0) = false := by simp; omega
  clear hL hz
  have nn := neq_selfFB (okF f)
  have AO := Lib.hid (fun W => okS f W hlen)
  have AI' := Lib.hid (fun W => okI f W hlen)
  clear hlen
  generalize okF f = q at *
  obtain ⟨x0, x1, x2, x3, x4⟩ := frL_cell HX1.out.1
  go_wp2_with fail
  refine (toFr f _).mono ?_
  rintro e w2 ⟨rfl, hB2⟩
  have HX2 := Lib.hid (HX1.out.later hB2)
  clear hB2 HX1 x0 x1 x2 x3 x4
  go_wp2_with fail
  refine (AO.out _).mono ?_
  rintro e w3 ⟨rfl, hB3⟩
  have HX3 := Lib.hid (HX2.out.later hB3)
  clear hB3 HX2
  obtain ⟨x0, x1, x2, x3, x4⟩ := frL_cell HX3.out.1
  go_wp2_with fail
  refine (toFr f _).mono ?_
  rintro e w4 ⟨rfl, hB4⟩
  have HX4 := Lib.hid (HX3.out.later hB4)
  clear hB4 HX3 x0 x1 x2 x3 x4
  go_wp2_with fail
  refine (AI'.out _).mono ?_
  rintro e w5 ⟨rfl, hB5⟩
  have HX5 := Lib.hid (HX4.out.later hB5)
  clear hB5 HX4
  go_wp2_with fail
  go_ret
  exact ⟨rfl, HX5.out.2⟩
end Go.Proofs.Ytooiejlbnddfmaa
