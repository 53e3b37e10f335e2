import Derived.Test.YtenioffildinbaaZai
import Derived.Test.YtenioffildinbaaZby
namespace Go.Proofs.Ytenioffildinbaa
open Go.RowKit Go.Deep
set_option linter.unusedSimpArgs false
theorem cellsRMonitor : Try.prog.cellsOf 28 = 8 := by kernel_rfl
theorem cellsRStringS : Try.prog.cellsOf 25 = 1 := by kernel_rfl
theorem cellsRBoolM : Try.prog.cellsOf 4 = 1 := by kernel_rfl
theorem cellsRCondS : Try.prog.cellsOf 26 = 1 := by kernel_rfl
section
variable {H : Type} {enc : TypeId × Value → H} {W : World} {sp : Nat → Bool} {held : Bool}
theorem rdStringS {fuel : Nat} {cs : List Value} {x : DataW H × List MemPlace} (h : DataW.trod enc Try.prog W 0 sp held fuel 25 cs = some x) :
    ∃ (l : List (List UInt8)) (a : Option Addr) (c : Nat), cs = [.slice a l.length c] ∧ (dStringS l).le maxLen ∧ Rd W (· < W.heap.size) (dStringS l) (.slice a l.length c) :=
  rdLs (by omega) (by omega) Try.underlying25 cellsRString (fun fuel cs x h => by obtain ⟨s, rfl, -, hs⟩ := DataW.trod_string Try.underlying9 h; exact ⟨s.data.toList, rdT_one hs rfl⟩) h
set_option maxRecDepth 100000 in
theorem rdMonitor (fuel : Nat) (cs : List Value) (x : DataW H × List MemPlace) (h : DataW.trod enc Try.prog W 0 sp held fuel 28 cs = some x) : ∃ y : MoV, RdTh W 8 (dMonitor y) cs := by
  obtain ⟨xs, n, hn, -, hlen, hxs, hf⟩ := DataW.trod_struct Try.underlying28 h
  rw [cellsRMonitor] at hlen
  match cs, hlen with
  | [c0, c1, c2, c3, c4, c5, c6, c7], _ =>
    match xs, hxs with
    | [y0, y1, y2, y3, y4, y5, y6, y7], _ =>
      have f0 : DataW.trod enc Try.prog W 0 sp held n 9 [c0] = some y0 := by have := hf 0 _ rfl; simpa [cellsRBoolM, cellsRCondS, cellsRString, cellsRStringS] using this
      have f1 : DataW.trod enc Try.prog W 0 sp held n 9 [c1] = some y1 := by have := hf 1 _ rfl; simpa [cellsRBoolM, cellsRCondS, cellsRString, cellsRStringS] using this
      have f2 : DataW.trod enc Try.prog W 0 sp held n 25 [c2] = some y2 := by have := hf 2 _ rfl; simpa [cellsRBoolM, cellsRCondS, cellsRString, cellsRStringS] using this
      have f3 : DataW.trod enc Try.prog W 0 sp held n 4 [c3] = some y3 := by have := hf 3 _ rfl; simpa [cellsRBoolM, cellsRCondS, cellsRString, cellsRStringS] using this
      have f4 : DataW.trod enc Try.prog W 0 sp held n 4 [c4] = some y4 := by have := hf 4 _ rfl; simpa [cellsRBoolM, cellsRCondS, cellsRString, cellsRStringS] using this
      have f5 : DataW.trod enc Try.prog W 0 sp held n 4 [c5] = some y5 := by have := hf 5 _ rfl; simpa [cellsRBoolM, cellsRCondS, cellsRString, cellsRStringS] using this
      have f6 : DataW.trod enc Try.prog W 0 sp held n 4 [c6] = some y6 := by have := hf 6 _ rfl; simpa [cellsRBoolM, cellsRCondS, cellsRString, cellsRStringS] using this
      have f7 : DataW.trod enc Try.prog W 0 sp held n 26 [c7] = some y7 := by have := hf 7 _ rfl; simpa [cellsRBoolM, cellsRCondS, cellsRString, cellsRStringS] using this
      obtain ⟨s0, e0, -, hs0⟩ := DataW.trod_string Try.underlying9 f0
      obtain ⟨s1, e1, -, hs1⟩ := DataW.trod_string Try.underlying9 f1
      obtain ⟨s2, a2, q2, e2, hl2, hr2⟩ := rdStringS f2
      obtain ⟨s3, e3, -⟩ := DataW.trod_bool Try.underlying4 f3
      obtain ⟨s4, e4, -⟩ := DataW.trod_bool Try.underlying4 f4
      obtain ⟨s5, e5, -⟩ := DataW.trod_bool Try.underlying4 f5
      obtain ⟨s6, e6, -⟩ := DataW.trod_bool Try.underlying4 f6
      obtain ⟨s7, a7, q7, e7, hl7, hr7⟩ := rdCondS f7
      simp only [List.cons.injEq, and_true] at e0 e1 e2 e3 e4 e5 e6 e7
      subst e0 e1 e2 e3 e4 e5 e6 e7
      refine ⟨⟨s0.data.toList, s1.data.toList, s2, s3, s4, s5, s6, s7⟩, rfl, fun j hj => ?_⟩
      rcases (by omega : j = 0 ∨ j = 1 ∨ j = 2 ∨ j = 3 ∨ j = 4 ∨ j = 5 ∨ j = 6 ∨ j = 7) with rfl | rfl | rfl | rfl | rfl | rfl | rfl | rfl
      · exact ⟨_, rfl, rfl, hs0⟩
      · exact ⟨_, rfl, rfl, hs1⟩
      · exact ⟨_, rfl, hr2, hl2⟩
      · exact ⟨_, rfl, rfl, trivial⟩
      · exact ⟨_, rfl, rfl, trivial⟩
      · exact ⟨_, rfl, rfl, trivial⟩
      · exact ⟨_, rfl, rfl, trivial⟩
      · exact ⟨_, rfl, hr7, hl7⟩
end
end Go.Proofs.Ytenioffildinbaa
