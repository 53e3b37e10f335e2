import Derived.Test.YtkncpfhblciplaaXam
import Derived.Test.YtkncpfhblciplaaProg
import Derived.ProofKit
import Derived.OpenShut
import Derived.Deep.Slices
namespace Go.Proofs.Ytkncpfhblciplaa
open Go.RowKit Go.Deep
theorem cellsAt : Try.prog.cellsOf 23 = 3 := by kernel_rfl
theorem cells3k : Try.prog.cellsOf 3 = 1 := by kernel_rfl
theorem cells9k : Try.prog.cellsOf 9 = 1 := by kernel_rfl
section
variable {H : Type} {enc : TypeId × Value → H} {W : World} {sp : Nat → Bool} {held : Bool}
set_option maxRecDepth 100000 in
theorem readAtom {fuel : Nat} {cs : List Value} {x : DataW H × List MemPlace} (h : DataW.trod enc Try.prog W 0 sp held fuel 23 cs = some x) :
    ∃ y : At, cs = [.int .i64 y.k, .int .i64 y.n, .string ⟨y.t.toArray⟩] ∧ y.t.length ≤ maxLen := by
  obtain ⟨xs, n, hn, -, hlen, hxs, hf⟩ := DataW.trod_struct Try.underlying23 h
  rw [cellsAt] at hlen
  match cs, hlen with
  | [c0, c1, c2], _ =>
    match xs, hxs with
    | [y0, y1, y2], _ =>
      have f0 : DataW.trod enc Try.prog W 0 sp held n 3 [c0] = some y0 := by have := hf 0 _ rfl; simpa [cells3k] using this
      have f1 : DataW.trod enc Try.prog W 0 sp held n 3 [c1] = some y1 := by have := hf 1 _ rfl; simpa [cells3k] using this
      have f2 : DataW.trod enc Try.prog W 0 sp held n 9 [c2] = some y2 := by have := hf 2 _ rfl; simpa [cells9k] using this
      obtain ⟨k, e0, -, -⟩ := DataW.trod_int Try.underlying3 f0
      obtain ⟨m, e1, -, -⟩ := DataW.trod_int Try.underlying3 f1
      obtain ⟨s, e2, -, hs⟩ := DataW.trod_string Try.underlying9 f2
      simp only [List.cons.injEq, and_true] at e0 e1 e2
      subst e0 e1 e2
      exact ⟨⟨k, m, s.data.toList⟩, rfl, hs⟩
end
end Go.Proofs.Ytkncpfhblciplaa
