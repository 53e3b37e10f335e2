import Derived.Test.YtkncpfhblciplaaXbd
import Derived.Test.YtkncpfhblciplaaXac
import Derived.BigQuiet
import Derived.Deep.RegionWith
namespace Go.Proofs.Ytkncpfhblciplaa
open Go.RowKit
set_option linter.unusedSimpArgs false
set_option maxHeartbeats 400000 in
theorem idOKi (n : Int) (w : World) : Calls Try.prog 79 #[.int .i64 n] w fun e w' => e = .returned (.bool (inB 1 n 1000000)) ∧ w' = w := by
  go_enter Try.func79, Try.ntmps79
  go_wp2
  all_goals
    go_ret
    refine ⟨ret_b ?_, rfl⟩
    rw [Bool.eq_iff_iff]; simp [inB]; try omega
theorem in01 (n : Int) : inB 0 n 1 = (n == 0 || n == 1) := by
  unfold inB
  rw [Bool.eq_iff_iff]; simp; omega
set_option maxHeartbeats 1600000 in
theorem atomOKi (x : At) (w : World) (ht : x.t.length ≤ maxLen) :
    Calls Try.prog 42 #[.agg #[.int .i64 x.k, .int .i64 x.n, .string ⟨x.t.toArray⟩]] w fun e w' => e = .returned (.bool (atOK x)) ∧ Below w.heap.size w w' := by
  have HTL : Hid (x.t.length ≤ maxLen) := ht
  clear ht
  rcases (by omega : x.k = 1 ∨ x.k = 2 ∨ x.k = 3 ∨ x.k = 4 ∨ (x.k < 1 ∨ 4 < x.k)) with k | k | k | k | k
  · have HP : Hid (atOK x = _) := atOK1 k
    rw [k]
    go_enter Try.func42, Try.ntmps42
    go_wp2_with (go_at_call 77; refine (numberOK _ _).mono ?_; rintro e w' ⟨rfl, rfl⟩)
    all_goals
      go_ret
      exact ⟨ret_b (end_b HP (by simp [*])), (Below.refl _ _).alloc (Nat.le_refl _) _⟩
  · have HP : Hid (atOK x = _) := atOK2 k
    rw [k]
    go_enter Try.func42, Try.ntmps42
    go_wp2_with (go_at_call 78; refine (textOK _ _ HTL.out).mono ?_; rintro e w' ⟨rfl, rfl⟩)
    all_goals
      go_ret
      exact ⟨ret_b (end_b HP (by simp [*])), (Below.refl _ _).alloc (Nat.le_refl _) _⟩
  · have HP : Hid (atOK x = _) := atOK3 k
    rw [in01] at HP
    rw [k]
    go_enter Try.func42, Try.ntmps42
    go_wp2_with fail
    all_goals
      go_ret
      exact ⟨ret_b (end_b HP (by simp [*])), (Below.refl _ _).alloc (Nat.le_refl _) _⟩
  · have HP : Hid (atOK x = _) := atOK4 k
    rw [k]
    go_enter Try.func42, Try.ntmps42
    go_wp2_with (go_at_call 79; refine (idOKi _ _).mono ?_; rintro e w' ⟨rfl, rfl⟩)
    all_goals
      go_ret
      exact ⟨ret_b (end_b HP (by simp [*])), (Below.refl _ _).alloc (Nat.le_refl _) _⟩
  · have HP : Hid (atOK x = false) := atOKN k
    have k1 : (x.k == 1) = false := by simp; omega
    have k2 : (x.k == 2) = false := by simp; omega
    have k3 : (x.k == 3) = false := by simp; omega
    have k4 : (x.k == 4) = false := by simp; omega
    go_enter Try.func42, Try.ntmps42
    go_wp2_with fail
    go_ret
    exact ⟨ret_b (end_b HP rfl), (Below.refl _ _).alloc (Nat.le_refl _) _⟩
end Go.Proofs.Ytkncpfhblciplaa
