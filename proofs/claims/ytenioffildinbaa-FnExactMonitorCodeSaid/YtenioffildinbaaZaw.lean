import Derived.Test.YtenioffildinbaaZav
import Derived.Test.YtenioffildinbaaZaa
import Derived.BigQuiet
import Derived.Deep.RegionWith
namespace Go.Proofs.Ytenioffildinbaa
open Go.RowKit
def errAt (l : List At) (i : Nat) : Int := if atOK (l.getD i atZ) = false then 1 else if (l.getD i atZ).k ≠ (l.getD 0 atZ).k then 9 else 0
def errFrom (l : List At) : Nat → Nat → Int
  | 0, _ => 0
  | n + 1, i => if errAt l i = 0 then errFrom l n (i + 1) else errAt l i
def errOf (l : List At) : Int := errFrom l l.length 0
theorem errFrom_succ (l : List At) (k : Nat) (h : k < l.length) : errFrom l (l.length - k) k = if errAt l k = 0 then errFrom l (l.length - (k + 1)) (k + 1) else errAt l k := by
  rw [show l.length - k = (l.length - (k + 1)) + 1 by omega, errFrom]
end Go.Proofs.Ytenioffildinbaa
namespace Go.Proofs.Ytenioffildinbaa
open Go.RowKit
set_option linter.unusedSimpArgs false
theorem nanI (x : Int) (w : World) : Calls Try.prog 118 #[.int .i64 x] w fun e w' => e = .returned (.bool false) ∧ w' = w := by
  go_enter Try.func118, Try.ntmps118
  go_wp2_with fail
  go_ret
  exact ⟨by simp, rfl⟩
set_option maxHeartbeats 1600000 in
theorem cmpInt (x y : Int) (w : World) : Calls Try.prog 108 #[.int .i64 x, .int .i64 y] w fun e w' => e = .returned (.int .i64 (if x < y then -1 else if y < x then 1 else 0)) ∧ w' = w := by
  by_cases h1 : x < y
  · rw [if_pos h1]
    have d1 : decide (x < y) = true := decide_eq_true h1
    clear h1
    go_enter Try.func108, Try.ntmps108
    go_wp2_with (go_at_call 118; refine (nanI _ _).mono ?_; rintro e w' ⟨rfl, rfl⟩)
    go_ret
    exact ⟨rfl, rfl⟩
  · rw [if_neg h1]
    have d1 : decide (x < y) = false := decide_eq_false h1
    clear h1
    by_cases h2 : y < x
    · rw [if_pos h2]
      have d2 : decide (y < x) = true := decide_eq_true h2
      clear h2
      go_enter Try.func108, Try.ntmps108
      go_wp2_with (go_at_call 118; refine (nanI _ _).mono ?_; rintro e w' ⟨rfl, rfl⟩)
      go_ret
      exact ⟨rfl, rfl⟩
    · rw [if_neg h2]
      have d2 : decide (y < x) = false := decide_eq_false h2
      clear h2
      go_enter Try.func108, Try.ntmps108
      go_wp2_with (go_at_call 118; refine (nanI _ _).mono ?_; rintro e w' ⟨rfl, rfl⟩)
      go_ret
      exact ⟨rfl, rfl⟩
end Go.Proofs.Ytenioffildinbaa
