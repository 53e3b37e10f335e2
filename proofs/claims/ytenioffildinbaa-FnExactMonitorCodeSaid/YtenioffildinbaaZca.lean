import Derived.Test.YtenioffildinbaaZbx
import Derived.Test.YtenioffildinbaaZbb
namespace Go.Proofs.Ytenioffildinbaa
open Go.RowKit Go.Deep
set_option linter.unusedSimpArgs false
theorem cellsRColumn : Try.prog.cellsOf 135 = 8 := by kernel_rfl
theorem cellsRBool : Try.prog.cellsOf 4 = 1 := by kernel_rfl
theorem cellsRTable : Try.prog.cellsOf 75 = 4 := by kernel_rfl
theorem cellsRColumnS : Try.prog.cellsOf 72 = 1 := by kernel_rfl
theorem cellsRIntS : Try.prog.cellsOf 73 = 1 := by kernel_rfl
theorem cellsRSchema : Try.prog.cellsOf 24 = 1 := by kernel_rfl
theorem cellsRTableS : Try.prog.cellsOf 22 = 1 := by kernel_rfl
section
variable {H : Type} {enc : TypeId × Value → H} {W : World} {sp : Nat → Bool} {held : Bool}
set_option maxRecDepth 100000 in
theorem rdColumn (fuel : Nat) (cs : List Value) (x : DataW H × List MemPlace) (h : DataW.trod enc Try.prog W 0 sp held fuel 135 cs = some x) : ∃ y : Cl, RdTh W 8 (dColumn y) cs := by
  obtain ⟨xs, n, hn, -, hlen, hxs, hf⟩ := DataW.trod_struct Try.underlying135 h
  rw [cellsRColumn] at hlen
  match cs, hlen with
  | [c0, c1, c2, c3, c4, c5, c6, c7], _ =>
    match xs, hxs with
    | [y0, y1, y2, y3, y4, y5, y6, y7], _ =>
      have f0 : DataW.trod enc Try.prog W 0 sp held n 9 [c0] = some y0 := by have := hf 0 _ rfl; simpa [cellsRBool, cellsRInt, cellsRString] using this
      have f1 : DataW.trod enc Try.prog W 0 sp held n 3 [c1] = some y1 := by have := hf 1 _ rfl; simpa [cellsRBool, cellsRInt, cellsRString] using this
      have f2 : DataW.trod enc Try.prog W 0 sp held n 3 [c2] = some y2 := by have := hf 2 _ rfl; simpa [cellsRBool, cellsRInt, cellsRString] using this
      have f3 : DataW.trod enc Try.prog W 0 sp held n 3 [c3] = some y3 := by have := hf 3 _ rfl; simpa [cellsRBool, cellsRInt, cellsRString] using this
      have f4 : DataW.trod enc Try.prog W 0 sp held n 3 [c4] = some y4 := by have := hf 4 _ rfl; simpa [cellsRBool, cellsRInt, cellsRString] using this
      have f5 : DataW.trod enc Try.prog W 0 sp held n 3 [c5] = some y5 := by have := hf 5 _ rfl; simpa [cellsRBool, cellsRInt, cellsRString] using this
      have f6 : DataW.trod enc Try.prog W 0 sp held n 9 [c6] = some y6 := by have := hf 6 _ rfl; simpa [cellsRBool, cellsRInt, cellsRString] using this
      have f7 : DataW.trod enc Try.prog W 0 sp held n 4 [c7] = some y7 := by have := hf 7 _ rfl; simpa [cellsRBool, cellsRInt, cellsRString] using this
      obtain ⟨s0, e0, -, hs0⟩ := DataW.trod_string Try.underlying9 f0
      obtain ⟨s1, e1, -, hs1⟩ := DataW.trod_int Try.underlying3 f1
      obtain ⟨s2, e2, -, hs2⟩ := DataW.trod_int Try.underlying3 f2
      obtain ⟨s3, e3, -, hs3⟩ := DataW.trod_int Try.underlying3 f3
      obtain ⟨s4, e4, -, hs4⟩ := DataW.trod_int Try.underlying3 f4
      obtain ⟨s5, e5, -, hs5⟩ := DataW.trod_int Try.underlying3 f5
      obtain ⟨s6, e6, -, hs6⟩ := DataW.trod_string Try.underlying9 f6
      obtain ⟨s7, e7, -⟩ := DataW.trod_bool Try.underlying4 f7
      simp only [List.cons.injEq, and_true] at e0 e1 e2 e3 e4 e5 e6 e7
      subst e0 e1 e2 e3 e4 e5 e6 e7
      refine ⟨⟨s0.data.toList, s1, s2, s3, s4, s5, s6.data.toList, s7⟩, rfl, fun j hj => ?_⟩
      rcases (by omega : j = 0 ∨ j = 1 ∨ j = 2 ∨ j = 3 ∨ j = 4 ∨ j = 5 ∨ j = 6 ∨ j = 7) with rfl | rfl | rfl | rfl | rfl | rfl | rfl | rfl
      · exact ⟨_, rfl, rfl, hs0⟩
      · exact ⟨_, rfl, rfl, hs1⟩
      · exact ⟨_, rfl, rfl, hs2⟩
      · exact ⟨_, rfl, rfl, hs3⟩
      · exact ⟨_, rfl, rfl, hs4⟩
      · exact ⟨_, rfl, rfl, hs5⟩
      · exact ⟨_, rfl, rfl, hs6⟩
      · exact ⟨_, rfl, rfl, trivial⟩
theorem rdColumnS {fuel : Nat} {cs : List Value} {x : DataW H × List MemPlace} (h : DataW.trod enc Try.prog W 0 sp held fuel 72 cs = some x) :
    ∃ (l : List Cl) (a : Option Addr) (c : Nat), cs = [.slice a l.length c] ∧ (dColumnS l).le maxLen ∧ Rd W (· < W.heap.size) (dColumnS l) (.slice a l.length c) :=
  rdLs (by omega) (by omega) Try.underlying72 cellsRColumn (fun fuel cs x h => rdColumn fuel cs x h) h
theorem rdIntS {fuel : Nat} {cs : List Value} {x : DataW H × List MemPlace} (h : DataW.trod enc Try.prog W 0 sp held fuel 73 cs = some x) :
    ∃ (l : List Int) (a : Option Addr) (c : Nat), cs = [.slice a l.length c] ∧ (dIntS l).le maxLen ∧ Rd W (· < W.heap.size) (dIntS l) (.slice a l.length c) :=
  rdLs (by omega) (by omega) Try.underlying73 cellsRInt (fun fuel cs x h => by obtain ⟨s, rfl, -, hs⟩ := DataW.trod_int Try.underlying3 h; exact ⟨s, rdT_one hs rfl⟩) h
set_option maxRecDepth 100000 in
theorem rdTable (fuel : Nat) (cs : List Value) (x : DataW H × List MemPlace) (h : DataW.trod enc Try.prog W 0 sp held fuel 75 cs = some x) : ∃ y : Tb, RdTh W 4 (dTable y) cs := by
  obtain ⟨xs, n, hn, -, hlen, hxs, hf⟩ := DataW.trod_struct Try.underlying75 h
  rw [cellsRTable] at hlen
  match cs, hlen with
  | [c0, c1, c2, c3], _ =>
    match xs, hxs with
    | [y0, y1, y2, y3], _ =>
      have f0 : DataW.trod enc Try.prog W 0 sp held n 9 [c0] = some y0 := by have := hf 0 _ rfl; simpa [cellsRBool, cellsRColumnS, cellsRIntS, cellsRString] using this
      have f1 : DataW.trod enc Try.prog W 0 sp held n 72 [c1] = some y1 := by have := hf 1 _ rfl; simpa [cellsRBool, cellsRColumnS, cellsRIntS, cellsRString] using this
      have f2 : DataW.trod enc Try.prog W 0 sp held n 73 [c2] = some y2 := by have := hf 2 _ rfl; simpa [cellsRBool, cellsRColumnS, cellsRIntS, cellsRString] using this
      have f3 : DataW.trod enc Try.prog W 0 sp held n 4 [c3] = some y3 := by have := hf 3 _ rfl; simpa [cellsRBool, cellsRColumnS, cellsRIntS, cellsRString] using this
      obtain ⟨s0, e0, -, hs0⟩ := DataW.trod_string Try.underlying9 f0
      obtain ⟨s1, a1, q1, e1, hl1, hr1⟩ := rdColumnS f1
      obtain ⟨s2, a2, q2, e2, hl2, hr2⟩ := rdIntS f2
      obtain ⟨s3, e3, -⟩ := DataW.trod_bool Try.underlying4 f3
      simp only [List.cons.injEq, and_true] at e0 e1 e2 e3
      subst e0 e1 e2 e3
      refine ⟨⟨s0.data.toList, s1, s2, s3⟩, rfl, fun j hj => ?_⟩
      rcases (by omega : j = 0 ∨ j = 1 ∨ j = 2 ∨ j = 3) with rfl | rfl | rfl | rfl
      · exact ⟨_, rfl, rfl, hs0⟩
      · exact ⟨_, rfl, hr1, hl1⟩
      · exact ⟨_, rfl, hr2, hl2⟩
      · exact ⟨_, rfl, rfl, trivial⟩
theorem rdTableS {fuel : Nat} {cs : List Value} {x : DataW H × List MemPlace} (h : DataW.trod enc Try.prog W 0 sp held fuel 22 cs = some x) :
    ∃ (l : List Tb) (a : Option Addr) (c : Nat), cs = [.slice a l.length c] ∧ (dTableS l).le maxLen ∧ Rd W (· < W.heap.size) (dTableS l) (.slice a l.length c) :=
  rdLs (by omega) (by omega) Try.underlying22 cellsRTable (fun fuel cs x h => rdTable fuel cs x h) h
set_option maxRecDepth 100000 in
theorem rdSchema (fuel : Nat) (cs : List Value) (x : DataW H × List MemPlace) (h : DataW.trod enc Try.prog W 0 sp held fuel 24 cs = some x) : ∃ y : ScV, RdTh W 1 (dSchema y) cs := by
  obtain ⟨xs, n, hn, -, hlen, hxs, hf⟩ := DataW.trod_struct Try.underlying24 h
  rw [cellsRSchema] at hlen
  match cs, hlen with
  | [c0], _ =>
    match xs, hxs with
    | [y0], _ =>
      have f0 : DataW.trod enc Try.prog W 0 sp held n 22 [c0] = some y0 := by have := hf 0 _ rfl; simpa [cellsRTableS] using this
      obtain ⟨s0, a0, q0, e0, hl0, hr0⟩ := rdTableS f0
      simp only [List.cons.injEq, and_true] at e0
      subst e0
      refine ⟨⟨s0⟩, rfl, fun j hj => ?_⟩
      obtain rfl : j = 0 := by omega
      exact ⟨_, rfl, hr0, hl0⟩
end
end Go.Proofs.Ytenioffildinbaa
