import Derived.Test.YtenioffildinbaaZbx
import Derived.Test.YtenioffildinbaaZah
namespace Go.Proofs.Ytenioffildinbaa
open Go.RowKit Go.Deep
set_option linter.unusedSimpArgs false
theorem cellsRCond : Try.prog.cellsOf 79 = 3 := by kernel_rfl
section
variable {H : Type} {enc : TypeId × Value → H} {W : World} {sp : Nat → Bool} {held : Bool}
set_option maxRecDepth 100000 in
theorem rdCond (fuel : Nat) (cs : List Value) (x : DataW H × List MemPlace) (h : DataW.trod enc Try.prog W 0 sp held fuel 79 cs = some x) : ∃ y : CondV, RdTh W 3 (dCond y) cs := by
  obtain ⟨xs, n, hn, -, hlen, hxs, hf⟩ := DataW.trod_struct Try.underlying79 h
  rw [cellsRCond] at hlen
  match cs, hlen with
  | [c0, c1, c2], _ =>
    match xs, hxs with
    | [y0, y1, y2], _ =>
      have f0 : DataW.trod enc Try.prog W 0 sp held n 9 [c0] = some y0 := by have := hf 0 _ rfl; simpa [cellsRAtomS, cellsRInt, cellsRString] using this
      have f1 : DataW.trod enc Try.prog W 0 sp held n 3 [c1] = some y1 := by have := hf 1 _ rfl; simpa [cellsRAtomS, cellsRInt, cellsRString] using this
      have f2 : DataW.trod enc Try.prog W 0 sp held n 77 [c2] = some y2 := by have := hf 2 _ rfl; simpa [cellsRAtomS, cellsRInt, cellsRString] using this
      obtain ⟨s0, e0, -, hs0⟩ := DataW.trod_string Try.underlying9 f0
      obtain ⟨s1, e1, -, hs1⟩ := DataW.trod_int Try.underlying3 f1
      obtain ⟨s2, a2, q2, e2, hl2, hr2⟩ := rdAtomS f2
      simp only [List.cons.injEq, and_true] at e0 e1 e2
      subst e0 e1 e2
      refine ⟨⟨s0.data.toList, s1, s2⟩, rfl, fun j hj => ?_⟩
      rcases (by omega : j = 0 ∨ j = 1 ∨ j = 2) with rfl | rfl | rfl
      · exact ⟨_, rfl, rfl, hs0⟩
      · exact ⟨_, rfl, rfl, hs1⟩
      · exact ⟨_, rfl, hr2, hl2⟩
theorem rdCondS {fuel : Nat} {cs : List Value} {x : DataW H × List MemPlace} (h : DataW.trod enc Try.prog W 0 sp held fuel 26 cs = some x) :
    ∃ (l : List CondV) (a : Option Addr) (c : Nat), cs = [.slice a l.length c] ∧ (dCondS l).le maxLen ∧ Rd W (· < W.heap.size) (dCondS l) (.slice a l.length c) :=
  rdLs (by omega) (by omega) Try.underlying26 cellsRCond (fun fuel cs x h => rdCond fuel cs x h) h
end
end Go.Proofs.Ytenioffildinbaa
