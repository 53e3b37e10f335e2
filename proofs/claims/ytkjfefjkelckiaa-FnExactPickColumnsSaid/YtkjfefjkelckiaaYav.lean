import Derived.Test.YtkjfefjkelckiaaYau
import Derived.Deep.CutRange
namespace Go.Proofs.Ytkjfefjkelckiaa
open Go.RowKit
set_option linter.unusedSimpArgs false
def sameAt (x y : At) : Bool := (x.k == y.k) && ((x.n == y.n) && (x.t == y.t))
theorem sameAt_iff {x y : At} : sameAt x y = true ↔ x = y := by
  unfold sameAt
  constructor
  · intro h
    simp at h
    exact At.ext' h.1 h.2.1 h.2.2
  · rintro rfl; simp
def hasB (l : List At) (a : At) : Bool := l.any (fun x => sameAt x a)
theorem hasB_true {l : List At} {a : At} {k : Nat} (hk : k < l.length) (h : l[k] = a) : hasB l a = true := by
  unfold hasB
  rw [List.any_eq_true]
  exact ⟨l[k], List.getElem_mem hk, sameAt_iff.2 h⟩
theorem hasB_false {l : List At} {a : At} (h : ∀ k (hk : k < l.length), l[k] ≠ a) : hasB l a = false := by
  unfold hasB
  rw [List.any_eq_false]
  intro x hx
  obtain ⟨k, hk, rfl⟩ := List.getElem_of_mem hx
  intro e
  exact h k hk (sameAt_iff.1 e)
end Go.Proofs.Ytkjfefjkelckiaa
