import Derived.Test.YtodgijhpokjjhaaDoorZbp
namespace Go.Proofs.YtodgijhpokjjhaaDoor
open Go.RowKit
set_option linter.unusedSimpArgs false
theorem u8_ne {b k : UInt8} (h : ¬ b = k) (n : Int) (hn : (k.toNat : Int) = n) : ((b.toNat : Int) == n) = false := by
  rw [beq_eq_false_iff_ne]
  intro e
  exact h (UInt8.toNat_inj.1 (by omega))
set_option maxHeartbeats 1600000 in
theorem blankI (b : UInt8) (w : World) : Calls Tryd.prog 36 #[.int .u8 (b.toNat : Int)] w fun e w' => e = .returned (.bool (decide (doesB b = 1))) ∧ w' = w := by
  by_cases h32 : b = 32
  · subst h32
    have HR : Hid (decide (doesB 32 = 1) = true) := by show _ = _; decide
    rw [HR.out, show ((((32 : UInt8).toNat : Nat)) : Int) = 32 from rfl]
    go_enter Tryd.func36, Tryd.ntmps36
    go_wp2_with fail
    go_ret
    exact ⟨rfl, rfl⟩
  by_cases h9 : b = 9
  · subst h9
    have HR : Hid (decide (doesB 9 = 1) = true) := by show _ = _; decide
    rw [HR.out, show ((((9 : UInt8).toNat : Nat)) : Int) = 9 from rfl]
    go_enter Tryd.func36, Tryd.ntmps36
    go_wp2_with fail
    go_ret
    exact ⟨rfl, rfl⟩
  by_cases h10 : b = 10
  · subst h10
    have HR : Hid (decide (doesB 10 = 1) = true) := by show _ = _; decide
    rw [HR.out, show ((((10 : UInt8).toNat : Nat)) : Int) = 10 from rfl]
    go_enter Tryd.func36, Tryd.ntmps36
    go_wp2_with fail
    go_ret
    exact ⟨rfl, rfl⟩
  by_cases h13 : b = 13
  · subst h13
    have HR : Hid (decide (doesB 13 = 1) = true) := by show _ = _; decide
    rw [HR.out, show ((((13 : UInt8).toNat : Nat)) : Int) = 13 from rfl]
    go_enter Tryd.func36, Tryd.ntmps36
    go_wp2_with fail
    go_ret
    exact ⟨rfl, rfl⟩
  have e32 := u8_ne h32 32 rfl
  have e9 := u8_ne h9 9 rfl
  have e10 := u8_ne h10 10 rfl
  have e13 := u8_ne h13 13 rfl
  have HR : Hid (decide (doesB b = 1) = false) := by
    show _ = _
    rw [decide_eq_false_iff_not]
    unfold doesB
    rw [if_neg (by rintro (h | h | h | h) <;> contradiction)]
    repeat' split
    all_goals omega
  rw [HR.out]
  clear h32 h9 h10 h13
  generalize (b.toNat : Int) = x at *
  go_enter Tryd.func36, Tryd.ntmps36
  go_wp2_with fail
  go_ret
  exact ⟨rfl, rfl⟩
set_option maxHeartbeats 3200000 in
theorem doesI (b : UInt8) (w : World) : Calls Tryd.prog 28 #[.int .u8 (b.toNat : Int)] w fun e w' => e = .returned (.int .u8 (doesB b : Nat)) ∧ w' = w := by
  have BL := Lib.hid (blankI b)
  by_cases hb : doesB b = 1
  · rw [hb] at BL ⊢
    rw [show decide ((1 : Nat) = 1) = true from rfl] at BL
    clear hb
    generalize (b.toNat : Int) = x at *
    go_enter Tryd.func28, Tryd.ntmps28
    go_wp2_with (go_at_call 36; refine (BL.out _).mono ?_; rintro e w' ⟨rfl, rfl⟩)
    go_ret
    exact ⟨rfl, rfl⟩
  have HB : Hid (decide (doesB b = 1) = false) := by show _ = _; simpa using hb
  rw [HB.out] at BL
  by_cases h91 : b = 91
  · subst h91
    have HR : Hid (doesB 91 = 2) := by show _ = _; decide
    rw [HR.out]
    rw [show ((((91 : UInt8).toNat : Nat)) : Int) = 91 from rfl] at BL ⊢
    clear hb
    go_enter Tryd.func28, Tryd.ntmps28
    go_wp2_with (go_at_call 36; refine (BL.out _).mono ?_; rintro e w' ⟨rfl, rfl⟩)
    go_ret
    exact ⟨rfl, rfl⟩
  by_cases h123 : b = 123
  · subst h123
    have HR : Hid (doesB 123 = 2) := by show _ = _; decide
    rw [HR.out]
    rw [show ((((123 : UInt8).toNat : Nat)) : Int) = 123 from rfl] at BL ⊢
    clear hb
    go_enter Tryd.func28, Tryd.ntmps28
    go_wp2_with (go_at_call 36; refine (BL.out _).mono ?_; rintro e w' ⟨rfl, rfl⟩)
    go_ret
    exact ⟨rfl, rfl⟩
  by_cases h93 : b = 93
  · subst h93
    have HR : Hid (doesB 93 = 3) := by show _ = _; decide
    rw [HR.out]
    rw [show ((((93 : UInt8).toNat : Nat)) : Int) = 93 from rfl] at BL ⊢
    clear hb
    go_enter Tryd.func28, Tryd.ntmps28
    go_wp2_with (go_at_call 36; refine (BL.out _).mono ?_; rintro e w' ⟨rfl, rfl⟩)
    go_ret
    exact ⟨rfl, rfl⟩
  by_cases h125 : b = 125
  · subst h125
    have HR : Hid (doesB 125 = 3) := by show _ = _; decide
    rw [HR.out]
    rw [show ((((125 : UInt8).toNat : Nat)) : Int) = 125 from rfl] at BL ⊢
    clear hb
    go_enter Tryd.func28, Tryd.ntmps28
    go_wp2_with (go_at_call 36; refine (BL.out _).mono ?_; rintro e w' ⟨rfl, rfl⟩)
    go_ret
    exact ⟨rfl, rfl⟩
  by_cases h34 : b = 34
  · subst h34
    have HR : Hid (doesB 34 = 4) := by show _ = _; decide
    rw [HR.out]
    rw [show ((((34 : UInt8).toNat : Nat)) : Int) = 34 from rfl] at BL ⊢
    clear hb
    go_enter Tryd.func28, Tryd.ntmps28
    go_wp2_with (go_at_call 36; refine (BL.out _).mono ?_; rintro e w' ⟨rfl, rfl⟩)
    go_ret
    exact ⟨rfl, rfl⟩
  by_cases h92 : b = 92
  · subst h92
    have HR : Hid (doesB 92 = 5) := by show _ = _; decide
    rw [HR.out]
    rw [show ((((92 : UInt8).toNat : Nat)) : Int) = 92 from rfl] at BL ⊢
    clear hb
    go_enter Tryd.func28, Tryd.ntmps28
    go_wp2_with (go_at_call 36; refine (BL.out _).mono ?_; rintro e w' ⟨rfl, rfl⟩)
    go_ret
    exact ⟨rfl, rfl⟩
  have e91 := u8_ne h91 91 rfl
  have e123 := u8_ne h123 123 rfl
  have e93 := u8_ne h93 93 rfl
  have e125 := u8_ne h125 125 rfl
  have e34 := u8_ne h34 34 rfl
  have e92 := u8_ne h92 92 rfl
  have HR : Hid (doesB b = 0) := by
    show _ = _
    unfold doesB at hb ⊢
    by_cases hc : b = 32 ∨ b = 9 ∨ b = 10 ∨ b = 13
    · rw [if_pos hc] at hb; exact absurd rfl hb
    · rw [if_neg hc, if_neg (by rintro (h | h) <;> contradiction), if_neg (by rintro (h | h) <;> contradiction), if_neg h34, if_neg h92]
  rw [HR.out]
  clear hb h91 h123 h93 h125 h34 h92
  generalize (b.toNat : Int) = x at *
  go_enter Tryd.func28, Tryd.ntmps28
  go_wp2_with (go_at_call 36; refine (BL.out _).mono ?_; rintro e w' ⟨rfl, rfl⟩)
  go_ret
  exact ⟨rfl, rfl⟩
theorem does_le (b : UInt8) : doesB b ≤ 5 := by
  unfold doesB
  repeat' split
  all_goals omega
end Go.Proofs.YtodgijhpokjjhaaDoor
