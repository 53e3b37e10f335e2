import Derived.Test.YtnegmpdllbbnhaaZbz
import Derived.Test.YtnegmpdllbbnhaaZbb
namespace Go.Proofs.Ytnegmpdllbbnhaa
open Go.RowKit Go.Deep
set_option linter.unusedSimpArgs false
theorem cellsRUpdate : Try.prog.cellsOf 43 = 5 := by kernel_rfl
section
variable {H : Type} {enc : TypeId × Value → H} {W : World} {sp : Nat → Bool} {held : Bool}
set_option maxRecDepth 100000 in
theorem rdUpdate (fuel : Nat) (cs : List Value) (x : DataW H × List MemPlace) (h : DataW.trod enc Try.prog W 0 sp held fuel 43 cs = some x) : ∃ y : UpV, RdTh W 5 (dUpdate y) cs := by
  obtain ⟨xs, n, hn, -, hlen, hxs, hf⟩ := DataW.trod_struct Try.underlying43 h
  rw [cellsRUpdate] at hlen
  match cs, hlen with
  | [c0, c1, c2, c3, c4], _ =>
    match xs, hxs with
    | [y0, y1, y2], _ =>
      have f0 : DataW.trod enc Try.prog W 0 sp held n 3 [c0] = some y0 := by have := hf 0 _ rfl; simpa [cellsRInt, cellsRRow] using this
      have f1 : DataW.trod enc Try.prog W 0 sp held n 40 [c1, c2] = some y1 := by have := hf 1 _ rfl; simpa [cellsRInt, cellsRRow] using this
      have f3 : DataW.trod enc Try.prog W 0 sp held n 40 [c3, c4] = some y2 := by have := hf 2 _ rfl; simpa [cellsRInt, cellsRRow] using this
      obtain ⟨s0, e0, -, hs0⟩ := DataW.trod_int Try.underlying3 f0
      obtain ⟨v1, hv1⟩ := rdRow _ _ _ f1
      obtain ⟨v3, hv3⟩ := rdRow _ _ _ f3
      simp only [List.cons.injEq, and_true] at e0
      subst e0
      refine ⟨⟨s0, v1.id, v1.cells, v3.id, v3.cells⟩, rfl, fun j hj => ?_⟩
      rcases (by omega : j = 0 ∨ j = 1 ∨ j = 2 ∨ j = 3 ∨ j = 4) with rfl | rfl | rfl | rfl | rfl
      · exact ⟨_, rfl, rfl, hs0⟩
      · exact hv1.2 0 (by omega)
      · exact hv1.2 1 (by omega)
      · exact hv3.2 0 (by omega)
      · exact hv3.2 1 (by omega)
theorem rdUpdateS {fuel : Nat} {cs : List Value} {x : DataW H × List MemPlace} (h : DataW.trod enc Try.prog W 0 sp held fuel 23 cs = some x) :
    ∃ (l : List UpV) (a : Option Addr) (c : Nat), cs = [.slice a l.length c] ∧ (dUpdateS l).le maxLen ∧ Rd W (· < W.heap.size) (dUpdateS l) (.slice a l.length c) :=
  rdLs (by omega) (by omega) Try.underlying23 cellsRUpdate (fun fuel cs x h => rdUpdate fuel cs x h) h
end
end Go.Proofs.Ytnegmpdllbbnhaa
