import Derived.Test.YthakmdkaciopnaaCMem
import Derived.Test.YthakmdkaciopnaaProg
import Derived.ProofKit
import Derived.OpenShut
import Derived.Deep.Slices
namespace Go.Proofs.Ythakmdkaciopnaa
open Go.RowKit Go.Deep
theorem cellsCl : Try.prog.cellsOf 70 = 8 := by kernel_rfl
theorem cells3c : Try.prog.cellsOf 3 = 1 := by kernel_rfl
theorem cells4c : Try.prog.cellsOf 4 = 1 := by kernel_rfl
theorem cells9c : Try.prog.cellsOf 9 = 1 := by kernel_rfl
def clC (x : Cl) : List Value := [.string ⟨x.nm.toArray⟩, .int .i64 x.k, .int .i64 x.mn, .int .i64 x.mx, .int .i64 x.lo, .int .i64 x.hi, .string ⟨x.rf.toArray⟩, .bool x.st]
/-- a column that came in -/
theorem readCol {H : Type} {enc : TypeId × Value → H} {W : World} {sp : Nat → Bool} {held : Bool} {fuel : Nat} {cs : List Value} {x : DataW H × List MemPlace} (h : DataW.trod enc Try.prog W 0 sp held fuel 70 cs = some x) :
    ∃ f : Cl, cs = clC f ∧ f.nm.length ≤ maxLen ∧ f.rf.length ≤ maxLen := by
  obtain ⟨xs, n, hn, -, hlen, hxs, hf⟩ := DataW.trod_struct Try.underlying70 h
  rw [cellsCl] at hlen
  match cs, hlen with
  | [c0, c1, c2, c3, c4, c5, c6, c7], _ =>
    match xs, hxs with
    | [y0, y1, y2, y3, y4, y5, y6, y7], _ =>
      have f0 : DataW.trod enc Try.prog W 0 sp held n 9 [c0] = some y0 := by have := hf 0 _ rfl; simpa [cells3c, cells4c, cells9c] using this
      have f1 : DataW.trod enc Try.prog W 0 sp held n 3 [c1] = some y1 := by have := hf 1 _ rfl; simpa [cells3c, cells4c, cells9c] using this
      have f2 : DataW.trod enc Try.prog W 0 sp held n 3 [c2] = some y2 := by have := hf 2 _ rfl; simpa [cells3c, cells4c, cells9c] using this
      have f3 : DataW.trod enc Try.prog W 0 sp held n 3 [c3] = some y3 := by have := hf 3 _ rfl; simpa [cells3c, cells4c, cells9c] using this
      have f4 : DataW.trod enc Try.prog W 0 sp held n 3 [c4] = some y4 := by have := hf 4 _ rfl; simpa [cells3c, cells4c, cells9c] using this
      have f5 : DataW.trod enc Try.prog W 0 sp held n 3 [c5] = some y5 := by have := hf 5 _ rfl; simpa [cells3c, cells4c, cells9c] using this
      have f6 : DataW.trod enc Try.prog W 0 sp held n 9 [c6] = some y6 := by have := hf 6 _ rfl; simpa [cells3c, cells4c, cells9c] using this
      have f7 : DataW.trod enc Try.prog W 0 sp held n 4 [c7] = some y7 := by have := hf 7 _ rfl; simpa [cells3c, cells4c, cells9c] using this
      obtain ⟨s0, e0, -, hs0⟩ := DataW.trod_string Try.underlying9 f0
      obtain ⟨s1, e1, -, -⟩ := DataW.trod_int Try.underlying3 f1
      obtain ⟨s2, e2, -, -⟩ := DataW.trod_int Try.underlying3 f2
      obtain ⟨s3, e3, -, -⟩ := DataW.trod_int Try.underlying3 f3
      obtain ⟨s4, e4, -, -⟩ := DataW.trod_int Try.underlying3 f4
      obtain ⟨s5, e5, -, -⟩ := DataW.trod_int Try.underlying3 f5
      obtain ⟨s6, e6, -, hs6⟩ := DataW.trod_string Try.underlying9 f6
      obtain ⟨s7, e7, -⟩ := DataW.trod_bool Try.underlying4 f7
      simp only [List.cons.injEq, and_true] at e0 e1 e2 e3 e4 e5 e6 e7
      subst e0 e1 e2 e3 e4 e5 e6 e7
      exact ⟨⟨s0.data.toList, s1, s2, s3, s4, s5, s6.data.toList, s7⟩, rfl, hs0, hs6⟩
end Go.Proofs.Ythakmdkaciopnaa
