import Derived.Test.YtfoimmnfpheoiaaZaf
import Derived.Deep.RegionHeld3
import Derived.Test.YtfoimmnfpheoiaaZaa
import Derived.BigQuiet
import Derived.Deep.RegionWith
namespace Go.Proofs.Ytfoimmnfpheoiaa
open Go.RowKit
set_option linter.unusedSimpArgs false
def stepB (l : List At) (i : Nat) : Bool := atOK (l.getD i atZ) && (((l.getD i atZ).k == (l.getD 0 atZ).k) && (decide (i = 0) || decide (cmpA (l.getD (i - 1) atZ) (l.getD i atZ) < 0)))
def datumB (l : List At) : Bool := decide (l.length ≤ 8) && (List.range l.length).all (stepB l)
theorem datumB_yes {l : List At} (h : ∀ i, i < l.length → stepB l i = true) : datumB l = decide (l.length ≤ 8) := by
  unfold datumB
  rw [List.all_eq_true.2 (fun i hi => h i (List.mem_range.1 hi)), Bool.and_true]
theorem datumB_long {l : List At} (h : 8 < l.length) : datumB l = false := by
  unfold datumB
  simp; omega
theorem Ats.three {w : World} {B : Nat → Prop} {b off : Nat} {l : List At} (h : Ats w B (some ⟨b, off, none⟩) l) (k : Nat) (hk : k < l.length) :
    w.cell? ⟨b, off + k * 3, none⟩ = some (.int .i64 l[k].k) ∧ w.cell? ⟨b, off + k * 3 + 1, none⟩ = some (.int .i64 l[k].n) ∧ w.cell? ⟨b, off + k * 3 + 2, none⟩ = some (.string ⟨l[k].t.toArray⟩) := by
  obtain ⟨b', off', e, -, h0, h1, h2⟩ := h.item k hk
  injection e with e
  injection e with e1 e2
  subst e1 e2
  exact ⟨h0, h1, h2⟩
theorem step_zero {l : List At} (hi : 0 < l.length) (h : atOK l[0] = true) : stepB l 0 = true := by unfold stepB; rw [at_getD hi, h]; simp
theorem step_up {l : List At} {m : Nat} (hi : m + 1 < l.length) (h : atOK l[m + 1] = true) (hk : l[m + 1].k = (l[0]'(by omega)).k) : stepB l (m + 1) = decide (cmpA (l[m]'(by omega)) l[m + 1] < 0) := by
  unfold stepB; rw [at_getD hi, h, at_getD (show 0 < l.length by omega), Nat.add_sub_cancel, at_getD (show m < l.length by omega), hk]; simp
end Go.Proofs.Ytfoimmnfpheoiaa
namespace Go.Proofs.Ytfoimmnfpheoiaa
open Go.RowKit
def errAt (l : List At) (i : Nat) : Int := if atOK (l.getD i atZ) = false then 1 else if (l.getD i atZ).k ≠ (l.getD 0 atZ).k then 9 else 0
def errFrom (l : List At) : Nat → Nat → Int
  | 0, _ => 0
  | n + 1, i => if errAt l i = 0 then errFrom l n (i + 1) else errAt l i
def errOf (l : List At) : Int := errFrom l l.length 0
theorem errFrom_succ (l : List At) (k : Nat) (h : k < l.length) : errFrom l (l.length - k) k = if errAt l k = 0 then errFrom l (l.length - (k + 1)) (k + 1) else errAt l k := by
  rw [show l.length - k = (l.length - (k + 1)) + 1 by omega, errFrom]
end Go.Proofs.Ytfoimmnfpheoiaa
namespace Go.Proofs.Ytfoimmnfpheoiaa
open Go.RowKit
set_option linter.unusedSimpArgs false
theorem nanI (x : Int) (w : World) : Calls Try.prog 50 #[.int .i64 x] w fun e w' => e = .returned (.bool false) ∧ w' = w := by
  go_enter Try.func50, Try.ntmps50
  go_wp2_with fail
  go_ret
  exact ⟨by simp, rfl⟩
set_option maxHeartbeats 1600000 in
theorem cmpInt (x y : Int) (w : World) : Calls Try.prog 42 #[.int .i64 x, .int .i64 y] w fun e w' => e = .returned (.int .i64 (if x < y then -1 else if y < x then 1 else 0)) ∧ w' = w := by
  by_cases h1 : x < y
  · rw [if_pos h1]
    have d1 : decide (x < y) = true := decide_eq_true h1
    clear h1
    go_enter Try.func42, Try.ntmps42
    go_wp2_with (go_at_call 50; refine (nanI _ _).mono ?_; rintro e w' ⟨rfl, rfl⟩)
    go_ret
    exact ⟨rfl, rfl⟩
  · rw [if_neg h1]
    have d1 : decide (x < y) = false := decide_eq_false h1
    clear h1
    by_cases h2 : y < x
    · rw [if_pos h2]
      have d2 : decide (y < x) = true := decide_eq_true h2
      clear h2
      go_enter Try.func42, Try.ntmps42
      go_wp2_with (go_at_call 50; refine (nanI _ _).mono ?_; rintro e w' ⟨rfl, rfl⟩)
      go_ret
      exact ⟨rfl, rfl⟩
    · rw [if_neg h2]
      have d2 : decide (y < x) = false := decide_eq_false h2
      clear h2
      go_enter Try.func42, Try.ntmps42
      go_wp2_with (go_at_call 50; refine (nanI _ _).mono ?_; rintro e w' ⟨rfl, rfl⟩)
      go_ret
      exact ⟨rfl, rfl⟩
end Go.Proofs.Ytfoimmnfpheoiaa
