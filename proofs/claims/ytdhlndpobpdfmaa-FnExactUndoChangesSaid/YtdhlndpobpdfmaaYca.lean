import Derived.Test.YtdhlndpobpdfmaaYbz
import Derived.Test.YtdhlndpobpdfmaaYav
namespace Go.Proofs.Ytdhlndpobpdfmaa
open Go.RowKit Go.Deep
set_option linter.unusedSimpArgs false
theorem cellsRChange : Try.prog.cellsOf 47 = 6 := by kernel_rfl
section
variable {H : Type} {enc : TypeId × Value → H} {W : World} {sp : Nat → Bool} {held : Bool}
set_option maxRecDepth 100000 in
theorem rdChange (fuel : Nat) (cs : List Value) (x : DataW H × List MemPlace) (h : DataW.trod enc Try.prog W 0 sp held fuel 47 cs = some x) : ∃ y : ChV, RdTh W 6 (dChange y) cs := by
  obtain ⟨xs, n, hn, -, hlen, hxs, hf⟩ := DataW.trod_struct Try.underlying47 h
  rw [cellsRChange] at hlen
  match cs, hlen with
  | [c0, c1, c2, c3, c4, c5], _ =>
    match xs, hxs with
    | [y0, y1, y2, y3], _ =>
      have f0 : DataW.trod enc Try.prog W 0 sp held n 3 [c0] = some y0 := by have := hf 0 _ rfl; simpa [cellsRInt, cellsRRow] using this
      have f1 : DataW.trod enc Try.prog W 0 sp held n 3 [c1] = some y1 := by have := hf 1 _ rfl; simpa [cellsRInt, cellsRRow] using this
      have f2 : DataW.trod enc Try.prog W 0 sp held n 45 [c2, c3] = some y2 := by have := hf 2 _ rfl; simpa [cellsRInt, cellsRRow] using this
      have f4 : DataW.trod enc Try.prog W 0 sp held n 45 [c4, c5] = some y3 := by have := hf 3 _ rfl; simpa [cellsRInt, cellsRRow] using this
      obtain ⟨s0, e0, -, hs0⟩ := DataW.trod_int Try.underlying3 f0
      obtain ⟨s1, e1, -, hs1⟩ := DataW.trod_int Try.underlying3 f1
      obtain ⟨v2, hv2⟩ := rdRow _ _ _ f2
      obtain ⟨v4, hv4⟩ := rdRow _ _ _ f4
      simp only [List.cons.injEq, and_true] at e0 e1
      subst e0 e1
      refine ⟨⟨s0, s1, v2.id, v2.cells, v4.id, v4.cells⟩, rfl, fun j hj => ?_⟩
      rcases (by omega : j = 0 ∨ j = 1 ∨ j = 2 ∨ j = 3 ∨ j = 4 ∨ j = 5) with rfl | rfl | rfl | rfl | rfl | rfl
      · exact ⟨_, rfl, rfl, hs0⟩
      · exact ⟨_, rfl, rfl, hs1⟩
      · exact hv2.2 0 (by omega)
      · exact hv2.2 1 (by omega)
      · exact hv4.2 0 (by omega)
      · exact hv4.2 1 (by omega)
theorem rdChangeS {fuel : Nat} {cs : List Value} {x : DataW H × List MemPlace} (h : DataW.trod enc Try.prog W 0 sp held fuel 25 cs = some x) :
    ∃ (l : List ChV) (a : Option Addr) (c : Nat), cs = [.slice a l.length c] ∧ (dChangeS l).le maxLen ∧ Rd W (· < W.heap.size) (dChangeS l) (.slice a l.length c) :=
  rdLs (by omega) (by omega) Try.underlying25 cellsRChange (fun fuel cs x h => rdChange fuel cs x h) h
end
end Go.Proofs.Ytdhlndpobpdfmaa
