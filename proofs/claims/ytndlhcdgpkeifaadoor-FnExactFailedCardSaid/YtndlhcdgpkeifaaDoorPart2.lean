import Derived.Test.YtndlhcdgpkeifaaDoorPart
namespace Go.Proofs.YtndlhcdgpkeifaaDoor
open Go.RowKit
set_option linter.unusedSimpArgs false
theorem in_true {lo n hi : Int} (h : lo ≤ n ∧ n ≤ hi) : inB lo n hi = true := by unfold inB; exact decide_eq_true h
theorem in_false {lo n hi : Int} (h : ¬ (lo ≤ n ∧ n ≤ hi)) : inB lo n hi = false := by unfold inB; exact decide_eq_false h
set_option maxHeartbeats 400000 in
theorem numberOK (n : Int) (w : World) : Calls Tryd.prog 58 #[.int .i64 n] w fun e w' => e = .returned (.bool (inB (-1000000000) n 1000000000)) ∧ w' = w := by
  go_enter Tryd.func58, Tryd.ntmps58
  go_wp2
  all_goals
    go_ret
    refine ⟨ret_b ?_, rfl⟩
    rw [Bool.eq_iff_iff]; simp [inB]; try omega

/-- the answer of partOK at the end of a walk -/
theorem part_end {j : J} {x : Bool} (HP : Hid (partB j = x)) {y : Bool} (h : y = x) : y = partB j := by rw [HP.out]; exact h


end Go.Proofs.YtndlhcdgpkeifaaDoor
