import Derived.Test.YtoalhminembpkaaUaj
import Derived.Test.YtoalhminembpkaaUam
namespace Go.Proofs.Ytoalhminembpkaa
open Go.RowKit Go.Deep
set_option linter.unusedSimpArgs false
theorem cellsRLock : Try.prog.cellsOf 48 = 2 := by kernel_rfl
section
variable {H : Type} {enc : TypeId × Value → H} {W : World} {sp : Nat → Bool} {held : Bool}
set_option maxRecDepth 100000 in
theorem rdLock (fuel : Nat) (cs : List Value) (x : DataW H × List MemPlace) (h : DataW.trod enc Try.prog W 0 sp held fuel 48 cs = some x) : ∃ y : LkV, RdTh W 2 (dLock y) cs := by
  obtain ⟨xs, n, hn, -, hlen, hxs, hf⟩ := DataW.trod_struct Try.underlying48 h
  rw [cellsRLock] at hlen
  match cs, hlen with
  | [c0, c1], _ =>
    match xs, hxs with
    | [y0, y1], _ =>
      have f0 : DataW.trod enc Try.prog W 0 sp held n 9 [c0] = some y0 := by have := hf 0 _ rfl; simpa [cellsRIntS, cellsRString] using this
      have f1 : DataW.trod enc Try.prog W 0 sp held n 46 [c1] = some y1 := by have := hf 1 _ rfl; simpa [cellsRIntS, cellsRString] using this
      obtain ⟨s0, e0, -, hs0⟩ := DataW.trod_string Try.underlying9 f0
      obtain ⟨s1, a1, q1, e1, hl1, hr1⟩ := rdIntS f1
      simp only [List.cons.injEq, and_true] at e0 e1
      subst e0 e1
      refine ⟨⟨s0.data.toList, s1⟩, rfl, fun j hj => ?_⟩
      rcases (by omega : j = 0 ∨ j = 1) with rfl | rfl
      · exact ⟨_, rfl, rfl, hs0⟩
      · exact ⟨_, rfl, hr1, hl1⟩
theorem rdLockS {fuel : Nat} {cs : List Value} {x : DataW H × List MemPlace} (h : DataW.trod enc Try.prog W 0 sp held fuel 22 cs = some x) :
    ∃ (l : List LkV) (a : Option Addr) (c : Nat), cs = [.slice a l.length c] ∧ (dLockS l).le maxLen ∧ Rd W (· < W.heap.size) (dLockS l) (.slice a l.length c) :=
  rdLs (by omega) (by omega) Try.underlying22 cellsRLock (fun fuel cs x h => rdLock fuel cs x h) h
end
end Go.Proofs.Ytoalhminembpkaa
