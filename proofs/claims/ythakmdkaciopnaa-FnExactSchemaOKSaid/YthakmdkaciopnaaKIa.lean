import Derived.Test.YthakmdkaciopnaaKEr
import Derived.BigQuiet
import Derived.Deep.RegionWith
namespace Go.Proofs.Ythakmdkaciopnaa
open Go.RowKit
set_option linter.unusedSimpArgs false
/-! impl's atoms -/
theorem in01 (n : Int) : inB 0 n 1 = (n == 0 || n == 1) := by
  unfold inB
  rw [Bool.eq_iff_iff]; simp; omega
theorem nanI (x : Int) (w : World) : Calls Try.prog 54 #[.int .i64 x] w fun e w' => e = .returned (.bool false) ∧ w' = w := by
  go_enter Try.func54, Try.ntmps54
  go_wp2_with fail
  go_ret
  exact ⟨by simp, rfl⟩
theorem nanS (x : ByteArray) (w : World) : Calls Try.prog 51 #[.string x] w fun e w' => e = .returned (.bool false) ∧ w' = w := by
  go_enter Try.func51, Try.ntmps51
  go_wp2_with fail
  go_ret
  exact ⟨by simp, rfl⟩
set_option maxHeartbeats 1600000 in
theorem cmpInt (x y : Int) (w : World) : Calls Try.prog 50 #[.int .i64 x, .int .i64 y] w fun e w' => e = .returned (.int .i64 (if x < y then -1 else if y < x then 1 else 0)) ∧ w' = w := by
  by_cases h1 : x < y
  · rw [if_pos h1]
    have d1 : decide (x < y) = true := decide_eq_true h1
    clear h1
    go_enter Try.func50, Try.ntmps50
    go_wp2_with (go_at_call 54; refine (nanI _ _).mono ?_; rintro e w' ⟨rfl, rfl⟩)
    go_ret
    exact ⟨rfl, rfl⟩
  · rw [if_neg h1]
    have d1 : decide (x < y) = false := decide_eq_false h1
    clear h1
    by_cases h2 : y < x
    · rw [if_pos h2]
      have d2 : decide (y < x) = true := decide_eq_true h2
      clear h2
      go_enter Try.func50, Try.ntmps50
      go_wp2_with (go_at_call 54; refine (nanI _ _).mono ?_; rintro e w' ⟨rfl, rfl⟩)
      go_ret
      exact ⟨rfl, rfl⟩
    · rw [if_neg h2]
      have d2 : decide (y < x) = false := decide_eq_false h2
      clear h2
      go_enter Try.func50, Try.ntmps50
      go_wp2_with (go_at_call 54; refine (nanI _ _).mono ?_; rintro e w' ⟨rfl, rfl⟩)
      go_ret
      exact ⟨rfl, rfl⟩
theorem bl_self : ∀ t : List UInt8, Op.bytesLess t t = false
  | [] => rfl
  | a :: r => by unfold Op.bytesLess; simp [bl_self r]
set_option maxHeartbeats 1600000 in
theorem cmpStr (x y : List UInt8) (w : World) : Calls Try.prog 38 #[.string ⟨x.toArray⟩, .string ⟨y.toArray⟩] w fun e w' => e = .returned (.int .i64 (if x = y then 0 else if Op.bytesLess x y then -1 else 1)) ∧ w' = w := by
  by_cases h1 : x = y
  · rw [if_pos h1]
    subst h1
    have d1 := bl_self x
    go_enter Try.func38, Try.ntmps38
    go_wp2_with (go_at_call 51; refine (nanS _ _).mono ?_; rintro e w' ⟨rfl, rfl⟩)
    go_ret
    exact ⟨rfl, rfl⟩
  · rw [if_neg h1]
    have e1 : (x == y) = false := by simpa using h1
    clear h1
    cases d1 : Op.bytesLess x y
    · go_enter Try.func38, Try.ntmps38
      go_wp2_with (go_at_call 51; refine (nanS _ _).mono ?_; rintro e w' ⟨rfl, rfl⟩)
      go_ret
      exact ⟨rfl, rfl⟩
    · go_enter Try.func38, Try.ntmps38
      go_wp2_with (go_at_call 51; refine (nanS _ _).mono ?_; rintro e w' ⟨rfl, rfl⟩)
      go_ret
      exact ⟨rfl, rfl⟩
end Go.Proofs.Ythakmdkaciopnaa
