import Derived.Test.YtndlhcdgpkeifaaDoorDReA
import Derived.Test.YtndlhcdgpkeifaaDoorDRwR
namespace Go.Proofs.YtndlhcdgpkeifaaDoor
open Go.RowKit Go.Deep
set_option linter.unusedSimpArgs false
theorem cellsRResult : Tryd.prog.cellsOf 34 = 5 := by kernel_rfl
theorem cellsRStringS : Tryd.prog.cellsOf 31 = 1 := by kernel_rfl
section
variable {H : Type} {enc : TypeId × Value → H} {W : World} {sp : Nat → Bool} {held : Bool}
theorem rdStringS {fuel : Nat} {cs : List Value} {x : DataW H × List MemPlace} (h : DataW.trod enc Tryd.prog W 0 sp held fuel 31 cs = some x) :
    ∃ (l : List (List UInt8)) (a : Option Addr) (c : Nat), cs = [.slice a l.length c] ∧ (dStringS l).le maxLen ∧ Rd W (· < W.heap.size) (dStringS l) (.slice a l.length c) :=
  rdLs (by omega) (by omega) Tryd.underlying31 cellsRString (fun fuel cs x h => by obtain ⟨s, rfl, -, hs⟩ := DataW.trod_string Tryd.underlying9 h; exact ⟨s.data.toList, rdT_one hs rfl⟩) h
set_option maxRecDepth 100000 in
theorem rdResult (fuel : Nat) (cs : List Value) (x : DataW H × List MemPlace) (h : DataW.trod enc Tryd.prog W 0 sp held fuel 34 cs = some x) : ∃ y : ResV, RdTh W 5 (dResult y) cs := by
  obtain ⟨xs, n, hn, -, hlen, hxs, hf⟩ := DataW.trod_struct Tryd.underlying34 h
  rw [cellsRResult] at hlen
  match cs, hlen with
  | [c0, c1, c2, c3, c4], _ =>
    match xs, hxs with
    | [y0, y1, y2, y3, y4], _ =>
      have f0 : DataW.trod enc Tryd.prog W 0 sp held n 3 [c0] = some y0 := by have := hf 0 _ rfl; simpa [cellsRInt, cellsRRowS, cellsRStringS] using this
      have f1 : DataW.trod enc Tryd.prog W 0 sp held n 3 [c1] = some y1 := by have := hf 1 _ rfl; simpa [cellsRInt, cellsRRowS, cellsRStringS] using this
      have f2 : DataW.trod enc Tryd.prog W 0 sp held n 3 [c2] = some y2 := by have := hf 2 _ rfl; simpa [cellsRInt, cellsRRowS, cellsRStringS] using this
      have f3 : DataW.trod enc Tryd.prog W 0 sp held n 31 [c3] = some y3 := by have := hf 3 _ rfl; simpa [cellsRInt, cellsRRowS, cellsRStringS] using this
      have f4 : DataW.trod enc Tryd.prog W 0 sp held n 32 [c4] = some y4 := by have := hf 4 _ rfl; simpa [cellsRInt, cellsRRowS, cellsRStringS] using this
      obtain ⟨s0, e0, -, hs0⟩ := DataW.trod_int Tryd.underlying3 f0
      obtain ⟨s1, e1, -, hs1⟩ := DataW.trod_int Tryd.underlying3 f1
      obtain ⟨s2, e2, -, hs2⟩ := DataW.trod_int Tryd.underlying3 f2
      obtain ⟨s3, a3, q3, e3, hl3, hr3⟩ := rdStringS f3
      obtain ⟨s4, a4, q4, e4, hl4, hr4⟩ := rdRowS f4
      simp only [List.cons.injEq, and_true] at e0 e1 e2 e3 e4
      subst e0 e1 e2 e3 e4
      refine ⟨⟨s0, s1, s2, s3, s4⟩, rfl, fun j hj => ?_⟩
      rcases (by omega : j = 0 ∨ j = 1 ∨ j = 2 ∨ j = 3 ∨ j = 4) with rfl | rfl | rfl | rfl | rfl
      · exact ⟨_, rfl, rfl, hs0⟩
      · exact ⟨_, rfl, rfl, hs1⟩
      · exact ⟨_, rfl, rfl, hs2⟩
      · exact ⟨_, rfl, hr3, hl3⟩
      · exact ⟨_, rfl, hr4, hl4⟩
end
end Go.Proofs.YtndlhcdgpkeifaaDoor
