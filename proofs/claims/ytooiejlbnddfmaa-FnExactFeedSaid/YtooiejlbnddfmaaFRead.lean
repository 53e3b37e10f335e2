import Derived.Test.YtooiejlbnddfmaaFPure
import Derived.Test.YtooiejlbnddfmaaProg
import Derived.ProofKit
import Derived.OpenShut
import Derived.Deep.Slices
namespace Go.Proofs.Ytooiejlbnddfmaa
open Go.RowKit Go.Deep
theorem cellsFr : Try.prog.cellsOf 23 = 5 := by kernel_rfl
theorem cells3f : Try.prog.cellsOf 3 = 1 := by kernel_rfl
theorem cells4f : Try.prog.cellsOf 4 = 1 := by kernel_rfl
theorem cells9f : Try.prog.cellsOf 9 = 1 := by kernel_rfl
/-- a framer that came in -/
theorem readFr {H : Type} {enc : TypeId × Value → H} {W : World} {sp : Nat → Bool} {held : Bool} {fuel : Nat} {cs : List Value} {x : DataW H × List MemPlace} (h : DataW.trod enc Try.prog W 0 sp held fuel 23 cs = some x) :
    ∃ f : Fr, cs = [.string ⟨f.buf.toArray⟩, .int .i64 f.d, .bool f.q, .bool f.s, .bool f.c] ∧ f.buf.length ≤ maxLen := by
  obtain ⟨xs, n, hn, -, hlen, hxs, hf⟩ := DataW.trod_struct Try.underlying23 h
  rw [cellsFr] at hlen
  match cs, hlen with
  | [c0, c1, c2, c3, c4], _ =>
    match xs, hxs with
    | [y0, y1, y2, y3, y4], _ =>
      have f0 : DataW.trod enc Try.prog W 0 sp held n 9 [c0] = some y0 := by have := hf 0 _ rfl; simpa [cells3f, cells4f, cells9f] using this
      have f1 : DataW.trod enc Try.prog W 0 sp held n 3 [c1] = some y1 := by have := hf 1 _ rfl; simpa [cells3f, cells4f, cells9f] using this
      have f2 : DataW.trod enc Try.prog W 0 sp held n 4 [c2] = some y2 := by have := hf 2 _ rfl; simpa [cells3f, cells4f, cells9f] using this
      have f3 : DataW.trod enc Try.prog W 0 sp held n 4 [c3] = some y3 := by have := hf 3 _ rfl; simpa [cells3f, cells4f, cells9f] using this
      have f4 : DataW.trod enc Try.prog W 0 sp held n 4 [c4] = some y4 := by have := hf 4 _ rfl; simpa [cells3f, cells4f, cells9f] using this
      obtain ⟨s, e0, -, hs⟩ := DataW.trod_string Try.underlying9 f0
      obtain ⟨k, e1, -, -⟩ := DataW.trod_int Try.underlying3 f1
      obtain ⟨b2, e2, -⟩ := DataW.trod_bool Try.underlying4 f2
      obtain ⟨b3, e3, -⟩ := DataW.trod_bool Try.underlying4 f3
      obtain ⟨b4, e4, -⟩ := DataW.trod_bool Try.underlying4 f4
      simp only [List.cons.injEq, and_true] at e0 e1 e2 e3 e4
      subst e0 e1 e2 e3 e4
      exact ⟨⟨s.data.toList, k, b2, b3, b4⟩, rfl, hs⟩
end Go.Proofs.Ytooiejlbnddfmaa
