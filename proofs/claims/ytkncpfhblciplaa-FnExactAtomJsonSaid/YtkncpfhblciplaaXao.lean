import Derived.Test.YtkncpfhblciplaaXan
namespace Go.Proofs.Ytkncpfhblciplaa
open Go.RowKit
set_option linter.unusedSimpArgs false
def atOK (x : At) : Bool :=
  if x.k = 1 then inB (-1000000000) x.n 1000000000 && x.t.isEmpty
  else if x.k = 2 then (x.n == 0) && textB x.t
  else if x.k = 3 then inB 0 x.n 1 && x.t.isEmpty
  else if x.k = 4 then inB 1 x.n 1000000 && x.t.isEmpty
  else false
theorem atOK1 {x : At} (h : x.k = 1) : atOK x = (inB (-1000000000) x.n 1000000000 && x.t.isEmpty) := by unfold atOK; rw [if_pos h]
theorem atOK2 {x : At} (h : x.k = 2) : atOK x = ((x.n == 0) && textB x.t) := by unfold atOK; rw [if_neg (by omega), if_pos h]
theorem atOK3 {x : At} (h : x.k = 3) : atOK x = (inB 0 x.n 1 && x.t.isEmpty) := by unfold atOK; rw [if_neg (by omega), if_neg (by omega), if_pos h]
theorem atOK4 {x : At} (h : x.k = 4) : atOK x = (inB 1 x.n 1000000 && x.t.isEmpty) := by unfold atOK; rw [if_neg (by omega), if_neg (by omega), if_neg (by omega), if_pos h]
theorem atOKN {x : At} (h : x.k < 1 ∨ 4 < x.k) : atOK x = false := by unfold atOK; rw [if_neg (by omega), if_neg (by omega), if_neg (by omega), if_neg (by omega)]
theorem end_b {a x y : Bool} (HP : Hid (a = x)) (h : y = x) : y = a := by rw [HP.out]; exact h
theorem atOK_text {x : At} (h : atOK x = true) : x.t.length ≤ 200 := by
  unfold atOK at h
  split at h
  · simp at h; simp [h.2]
  split at h
  · simp [textB] at h; exact h.2.1
  split at h
  · simp at h; simp [h.2]
  split at h
  · simp at h; simp [h.2]
  · cases h
set_option maxHeartbeats 1600000 in
theorem atomOKs (x : At) (w : World) (ht : x.t.length ≤ maxLen) :
    Calls Try.prog 39 #[.agg #[.int .i64 x.k, .int .i64 x.n, .string ⟨x.t.toArray⟩]] w fun e w' => e = .returned (.bool (atOK x)) ∧ Below w.heap.size w w' := by
  have HTL : Hid (x.t.length ≤ maxLen) := ht
  clear ht
  rcases (by omega : x.k = 1 ∨ x.k = 2 ∨ x.k = 3 ∨ x.k = 4 ∨ (x.k < 1 ∨ 4 < x.k)) with k | k | k | k | k
  · have HP : Hid (atOK x = _) := atOK1 k
    rw [k]
    go_enter Try.func39, Try.ntmps39
    go_wp2_with (go_at_call 71; refine (inS _ _ _ _).mono ?_; rintro e w' ⟨rfl, rfl⟩)
    all_goals
      go_ret
      exact ⟨ret_b (end_b HP (by simp [*])), (Below.refl _ _).alloc (Nat.le_refl _) _⟩
  · have HP : Hid (atOK x = _) := atOK2 k
    rw [k]
    go_enter Try.func39, Try.ntmps39
    go_wp2_with (go_at_call 72; refine (textS _ _ HTL.out).mono ?_; rintro e w' ⟨rfl, rfl⟩)
    all_goals
      go_ret
      exact ⟨ret_b (end_b HP (by simp [*])), (Below.refl _ _).alloc (Nat.le_refl _) _⟩
  · have HP : Hid (atOK x = _) := atOK3 k
    rw [k]
    go_enter Try.func39, Try.ntmps39
    go_wp2_with (go_at_call 71; refine (inS _ _ _ _).mono ?_; rintro e w' ⟨rfl, rfl⟩)
    all_goals
      go_ret
      exact ⟨ret_b (end_b HP (by simp [*])), (Below.refl _ _).alloc (Nat.le_refl _) _⟩
  · have HP : Hid (atOK x = _) := atOK4 k
    rw [k]
    go_enter Try.func39, Try.ntmps39
    go_wp2_with (go_at_call 71; refine (inS _ _ _ _).mono ?_; rintro e w' ⟨rfl, rfl⟩)
    all_goals
      go_ret
      exact ⟨ret_b (end_b HP (by simp [*])), (Below.refl _ _).alloc (Nat.le_refl _) _⟩
  · have HP : Hid (atOK x = false) := atOKN k
    have k1 : (x.k == 1) = false := by simp; omega
    have k2 : (x.k == 2) = false := by simp; omega
    have k3 : (x.k == 3) = false := by simp; omega
    have k4 : (x.k == 4) = false := by simp; omega
    go_enter Try.func39, Try.ntmps39
    go_wp2_with fail
    go_ret
    exact ⟨ret_b (end_b HP rfl), (Below.refl _ _).alloc (Nat.le_refl _) _⟩
end Go.Proofs.Ytkncpfhblciplaa
