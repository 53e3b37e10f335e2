import Derived.Test.YtgiaabgcbpafgaaPart
namespace Go.Proofs.Ytgiaabgcbpafgaa
open Go.RowKit
set_option linter.unusedSimpArgs false
theorem in_true {lo n hi : Int} (h : lo ≤ n ∧ n ≤ hi) : inB lo n hi = true := by unfold inB; exact decide_eq_true h
theorem in_false {lo n hi : Int} (h : ¬ (lo ≤ n ∧ n ≤ hi)) : inB lo n hi = false := by unfold inB; exact decide_eq_false h
/-- the answer of partOK at the end of a walk -/
theorem part_end {j : J} {x : Bool} (HP : Hid (partB j = x)) {y : Bool} (h : y = x) : y = partB j := by rw [HP.out]; exact h


end Go.Proofs.Ytgiaabgcbpafgaa
