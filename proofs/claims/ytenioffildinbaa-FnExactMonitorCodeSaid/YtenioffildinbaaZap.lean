import Derived.Test.YtenioffildinbaaZao
namespace Go.Proofs.Ytenioffildinbaa
open Go.RowKit
set_option linter.unusedSimpArgs false
theorem end_bC {a x y : Bool} (HP : Hid (a = x)) (h : y = x) : y = a := by rw [HP.out]; exact h
theorem kind1 {c : Cl} (h : c.k = 1) : kindB c = (inB (-1000000000) c.lo 1000000000 && (inB (-1000000000) c.hi 1000000000 && (decide (c.lo ≤ c.hi) && (c.rf.isEmpty && !c.st)))) := by unfold kindB; rw [if_pos h]
theorem kind1s {c : Cl} (h : c.k = 1) : kindB c = (inB (-1000000000) c.lo c.hi && (inB c.lo c.hi 1000000000 && (c.rf.isEmpty && !c.st))) := by
  rw [kind1 h, Bool.eq_iff_iff]
  simp [inB]
  constructor
  · rintro ⟨⟨a, b⟩, ⟨c, d⟩, e, f⟩; exact ⟨⟨a, e⟩, ⟨e, d⟩, f⟩
  · rintro ⟨⟨a, b⟩, ⟨c, d⟩, f⟩; exact ⟨⟨a, by omega⟩, ⟨by omega, d⟩, b, f⟩
theorem kind4 {c : Cl} (h : c.k = 4) : kindB c = ((c.mn == 0) && ((c.lo == 0) && ((c.hi == 0) && nameB c.rf))) := by unfold kindB; rw [if_neg (by omega), if_pos h]
theorem kind23 {c : Cl} (h : c.k = 2 ∨ c.k = 3) : kindB c = ((c.lo == 0) && ((c.hi == 0) && (c.rf.isEmpty && !c.st))) := by unfold kindB; rw [if_neg (by omega), if_neg (by omega), if_pos h]
theorem kindN {c : Cl} (h : c.k < 1 ∨ 4 < c.k) : kindB c = false := by unfold kindB; rw [if_neg (by omega), if_neg (by omega), if_neg (by omega)]
theorem col_no {c : Cl} (h : nameB c.nm = false) : colB c = false := by unfold colB; rw [h]; rfl
theorem col_mn {c : Cl} (h : inB 0 c.mn 1 = false) : colB c = false := by unfold colB; rw [h]; simp
theorem col_mx {c : Cl} (h : inB 1 c.mx 8 = false) : colB c = false := by unfold colB; rw [h]; simp
theorem col_kn {c : Cl} (h : kindB c = false) : colB c = false := by unfold colB; rw [h]; simp
theorem col_yes {c : Cl} (h : nameB c.nm = true) (h1 : inB 0 c.mn 1 = true) (h2 : inB 1 c.mx 8 = true) : colB c = kindB c := by unfold colB; rw [h, h1, h2]; simp
set_option maxHeartbeats 3200000 in
theorem columnOKs (c : Cl) (w : World) (ht : c.nm.length ≤ maxLen) (hr : c.rf.length ≤ maxLen) :
    Calls Try.prog 74 #[.agg #[.string ⟨c.nm.toArray⟩, .int .i64 c.k, .int .i64 c.mn, .int .i64 c.mx, .int .i64 c.lo, .int .i64 c.hi, .string ⟨c.rf.toArray⟩, .bool c.st]] w fun e w' => e = .returned (.bool (colB c)) ∧ Below w.heap.size w w' := by
  have HT : Hid (c.nm.length ≤ maxLen ∧ c.rf.length ≤ maxLen) := ⟨ht, hr⟩
  clear ht hr
  cases hn : nameB c.nm
  · have HP : Hid (colB c = false) := col_no hn
    go_enter Try.func74, Try.ntmps74
    go_wp2_with (first | (go_at_call 40; refine (inS _ _ _ _).mono ?_; rintro e w' ⟨rfl, rfl⟩) | (go_at_call 43; refine (nameS _ _ (by first | exact HT.out.1 | exact HT.out.2)).mono ?_; rintro e w' ⟨rfl, rfl⟩))
    go_ret
    exact ⟨ret_b (end_bC HP rfl), (Below.refl _ _).alloc (Nat.le_refl _) _⟩
  cases hk : inB 1 c.k 4
  · have HP : Hid (colB c = false) := col_kn (kindN (by unfold inB at hk; simp at hk; omega))
    go_enter Try.func74, Try.ntmps74
    go_wp2_with (first | (go_at_call 40; refine (inS _ _ _ _).mono ?_; rintro e w' ⟨rfl, rfl⟩) | (go_at_call 43; refine (nameS _ _ (by first | exact HT.out.1 | exact HT.out.2)).mono ?_; rintro e w' ⟨rfl, rfl⟩))
    go_ret
    exact ⟨ret_b (end_bC HP rfl), (Below.refl _ _).alloc (Nat.le_refl _) _⟩
  cases h1 : inB 0 c.mn 1
  · have HP : Hid (colB c = false) := col_mn h1
    go_enter Try.func74, Try.ntmps74
    go_wp2_with (first | (go_at_call 40; refine (inS _ _ _ _).mono ?_; rintro e w' ⟨rfl, rfl⟩) | (go_at_call 43; refine (nameS _ _ (by first | exact HT.out.1 | exact HT.out.2)).mono ?_; rintro e w' ⟨rfl, rfl⟩))
    go_ret
    exact ⟨ret_b (end_bC HP rfl), (Below.refl _ _).alloc (Nat.le_refl _) _⟩
  cases h2 : inB 1 c.mx 8
  · have HP : Hid (colB c = false) := col_mx h2
    go_enter Try.func74, Try.ntmps74
    go_wp2_with (first | (go_at_call 40; refine (inS _ _ _ _).mono ?_; rintro e w' ⟨rfl, rfl⟩) | (go_at_call 43; refine (nameS _ _ (by first | exact HT.out.1 | exact HT.out.2)).mono ?_; rintro e w' ⟨rfl, rfl⟩))
    go_ret
    exact ⟨ret_b (end_bC HP rfl), (Below.refl _ _).alloc (Nat.le_refl _) _⟩
  have HY : Hid (colB c = kindB c) := col_yes hn h1 h2
  have hk4 : 1 ≤ c.k ∧ c.k ≤ 4 := by unfold inB at hk; simpa using hk
  rcases (by omega : c.k = 1 ∨ c.k = 4 ∨ (c.k = 2 ∨ c.k = 3)) with k | k | k
  · have HP : Hid (colB c = _) := HY.out.trans (kind1s k)
    rw [k] at hk ⊢
    clear hk4 HY
    go_enter Try.func74, Try.ntmps74
    go_wp2_with (first | (go_at_call 40; refine (inS _ _ _ _).mono ?_; rintro e w' ⟨rfl, rfl⟩) | (go_at_call 43; refine (nameS _ _ (by first | exact HT.out.1 | exact HT.out.2)).mono ?_; rintro e w' ⟨rfl, rfl⟩))
    all_goals
      go_ret
      exact ⟨ret_b (end_bC HP (by simp [*])), (Below.refl _ _).alloc (Nat.le_refl _) _⟩
  · have HP : Hid (colB c = _) := HY.out.trans (kind4 k)
    rw [k] at hk ⊢
    clear hk4 HY
    by_cases hlo : c.lo = 0
    case neg =>
      have HP : Hid (colB c = false) := by show colB c = false; rw [HP.out]; simp [hlo]
      have e1 : (c.lo != 0) = true := by simpa using hlo
      clear hlo
      go_enter Try.func74, Try.ntmps74
      go_wp2_with (first | (go_at_call 40; refine (inS _ _ _ _).mono ?_; rintro e w' ⟨rfl, rfl⟩) | (go_at_call 43; refine (nameS _ _ (by first | exact HT.out.1 | exact HT.out.2)).mono ?_; rintro e w' ⟨rfl, rfl⟩))
      all_goals
        go_ret
        exact ⟨ret_b (end_bC HP (by simp [*])), (Below.refl _ _).alloc (Nat.le_refl _) _⟩
    by_cases hhi : c.hi = 0
    case neg =>
      have HP : Hid (colB c = false) := by show colB c = false; rw [HP.out]; simp [hhi]
      have e1 : (c.hi != 0) = true := by simpa using hhi
      rw [hlo]
      clear hhi
      go_enter Try.func74, Try.ntmps74
      go_wp2_with (first | (go_at_call 40; refine (inS _ _ _ _).mono ?_; rintro e w' ⟨rfl, rfl⟩) | (go_at_call 43; refine (nameS _ _ (by first | exact HT.out.1 | exact HT.out.2)).mono ?_; rintro e w' ⟨rfl, rfl⟩))
      all_goals
        go_ret
        exact ⟨ret_b (end_bC HP (by simp [*])), (Below.refl _ _).alloc (Nat.le_refl _) _⟩
    rw [hlo, hhi]
    go_enter Try.func74, Try.ntmps74
    go_wp2_with (first | (go_at_call 40; refine (inS _ _ _ _).mono ?_; rintro e w' ⟨rfl, rfl⟩) | (go_at_call 43; refine (nameS _ _ (by first | exact HT.out.1 | exact HT.out.2)).mono ?_; rintro e w' ⟨rfl, rfl⟩))
    all_goals
      go_ret
      exact ⟨ret_b (end_bC HP (by simp [*])), (Below.refl _ _).alloc (Nat.le_refl _) _⟩
  · have HP : Hid (colB c = _) := HY.out.trans (kind23 k)
    have k1 : (c.k == 1) = false := by simp; omega
    have k4 : (c.k == 4) = false := by simp; omega
    clear hk4 HY k
    by_cases hlo : c.lo = 0
    case neg =>
      have HP : Hid (colB c = false) := by show colB c = false; rw [HP.out]; simp [hlo]
      have e1 : (c.lo != 0) = true := by simpa using hlo
      clear hlo
      go_enter Try.func74, Try.ntmps74
      go_wp2_with (first | (go_at_call 40; refine (inS _ _ _ _).mono ?_; rintro e w' ⟨rfl, rfl⟩) | (go_at_call 43; refine (nameS _ _ (by first | exact HT.out.1 | exact HT.out.2)).mono ?_; rintro e w' ⟨rfl, rfl⟩))
      all_goals
        go_ret
        exact ⟨ret_b (end_bC HP (by simp [*])), (Below.refl _ _).alloc (Nat.le_refl _) _⟩
    by_cases hhi : c.hi = 0
    case neg =>
      have HP : Hid (colB c = false) := by show colB c = false; rw [HP.out]; simp [hhi]
      have e1 : (c.hi != 0) = true := by simpa using hhi
      rw [hlo]
      clear hhi
      go_enter Try.func74, Try.ntmps74
      go_wp2_with (first | (go_at_call 40; refine (inS _ _ _ _).mono ?_; rintro e w' ⟨rfl, rfl⟩) | (go_at_call 43; refine (nameS _ _ (by first | exact HT.out.1 | exact HT.out.2)).mono ?_; rintro e w' ⟨rfl, rfl⟩))
      all_goals
        go_ret
        exact ⟨ret_b (end_bC HP (by simp [*])), (Below.refl _ _).alloc (Nat.le_refl _) _⟩
    rw [hlo, hhi]
    go_enter Try.func74, Try.ntmps74
    go_wp2_with (first | (go_at_call 40; refine (inS _ _ _ _).mono ?_; rintro e w' ⟨rfl, rfl⟩) | (go_at_call 43; refine (nameS _ _ (by first | exact HT.out.1 | exact HT.out.2)).mono ?_; rintro e w' ⟨rfl, rfl⟩))
    all_goals
      go_ret
      exact ⟨ret_b (end_bC HP (by simp [*])), (Below.refl _ _).alloc (Nat.le_refl _) _⟩
end Go.Proofs.Ytenioffildinbaa
