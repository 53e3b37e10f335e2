import Derived.Test.YtfjaoiigdjpcfaaDoorWalks
namespace Go.Proofs.YtfjaoiigdjpcfaaDoor
open Go.RowKit
theorem ret_int {a b : Int} (h : a = b) : Ending.returned (.int .i64 a) = .returned (.int .i64 b) := by rw [h]

def inB (lo n hi : Int) : Bool := decide (lo ≤ n) && decide (n ≤ hi)
theorem ret_b {a b : Bool} (h : a = b) : Ending.returned (.bool a) = .returned (.bool b) := by rw [h]
theorem inS (n lo hi : Int) (w : World) : Calls Tryd.prog 9 #[.int .i64 n, .int .i64 lo, .int .i64 hi] w fun e w' => e = .returned (.bool (inB lo n hi)) ∧ w' = w := by
  go_enter Tryd.func9, Tryd.ntmps9
  go_wp2
  all_goals
    go_ret
    refine ⟨ret_b ?_, rfl⟩
    rw [Bool.eq_iff_iff]; simp [inB]; try omega

set_option maxHeartbeats 4000000 in
theorem word_spec (n : Int) (w : World) : Calls Tryd.prog 5 #[.int .i64 n] w fun e w' => e = .returned (.string ⟨(wd n).toArray⟩) ∧ Below w.heap.size w w' := by
  by_cases hz : n < 1 ∨ 8 ≤ n
  · have e : wd n = [] := by
      rcases hz with hz | hz
      · by_cases h0 : n = 0
        · subst h0; rfl
        · exact wd_out (Or.inl (by omega))
      · exact wd_out (Or.inr hz)
    rw [e]
    clear e
    have hi : inB 1 n 7 = false := by unfold inB; rw [Bool.and_eq_false_iff]; simp; omega
    clear hz
    go_enter Tryd.func5, Tryd.ntmps5
    go_wp2_with fail
    refine (inS _ _ _ _).mono ?_
    rintro e w1 ⟨rfl, rfl⟩
    rw [hi]
    go_wp2_with fail
    go_ret
    exact ⟨rfl, Below.refl _ _⟩
  · obtain ⟨k, rfl⟩ := Int.eq_ofNat_of_zero_le (show 0 ≤ n by omega)
    have hk : k < 8 := by omega
    have hk1 : 1 ≤ k := by omega
    clear hz
    have hi : inB 1 (k : Int) 7 = true := by unfold inB; rw [Bool.and_eq_true]; simp; omega
    have HS : ∃ s, Hid (wd (k : Int) = s) := ⟨_, rfl⟩
    obtain ⟨s, HS⟩ := HS
    rw [HS.out]
    go_enter Tryd.func5, Tryd.ntmps5
    go_wp2_with fail
    refine (inS _ _ _ _).mono ?_
    rintro e w0 ⟨rfl, rfl⟩
    rw [hi]
    go_wp2_with fail
    refine (words_spec _).mono ?_
    rintro e w1 ⟨rfl, hB, hT⟩
    have hc := hT k hk
    rw [HS.out] at hc
    clear hT
    have HB : Hid (Below w0.heap.size w0 w1) := hB
    clear hB
    go_wp2_with fail
    go_ret
    exact ⟨rfl, HB.out⟩

set_option maxHeartbeats 400000 in
theorem word_impl (n : Int) (w : World) (hT : Tab w) : Calls Tryd.prog 6 #[.int .i64 n] w fun e w' => e = .returned (.string ⟨(wd n).toArray⟩) ∧ w' = w := by
  by_cases hz : n < 0 ∨ 8 ≤ n
  · rw [wd_out hz]
    rcases hz with hz | hz
    · go_enter Tryd.func6, Tryd.ntmps6
      go_wp2_with fail
      go_ret
      exact ⟨rfl, rfl⟩
    · have hz' : 0 ≤ n := by omega
      go_enter Tryd.func6, Tryd.ntmps6
      go_wp2_with fail
      go_ret
      exact ⟨rfl, rfl⟩
  · obtain ⟨k, rfl⟩ := Int.eq_ofNat_of_zero_le (show 0 ≤ n by omega)
    have hk : k < 8 := by omega
    have hc := hT k hk
    clear hT hz
    generalize wd (k : Int) = s at *
    go_enter Tryd.func6, Tryd.ntmps6
    go_wp2_with fail
    go_ret
    exact ⟨rfl, rfl⟩

set_option maxHeartbeats 400000 in
theorem funcof_impl (s : ByteArray) (w : World) (hT : Tab w) : Calls Tryd.prog 8 #[.string s] w fun e w' => e = .returned (.int .i64 (codeL s.toList)) ∧ w' = w := by
  have HT : Hid (Tab w) := hT
  clear hT
  go_enter Tryd.func8, Tryd.ntmps8
  go_wp2_with fail
  go_loop [4] (fun t => ∃ k : Nat, k ≤ 8 ∧ t = .int .i64 k ∧ Hid (∀ j : Nat, j < k → (wd (j : Int) == s.toList) = false)) (fun t => 8 - (intOf t).toNat)
  case atStart => exact ⟨0, Nat.zero_le _, rfl, fun j h => absurd h (by omega)⟩
  case round =>
    obtain ⟨k, hk, rfl, hall⟩ := hrel
    by_cases hlt : k < 8
    · have hc := HT.out k hlt
      cases he : wd (k : Int) == s.toList
      · have HE : Hid ((wd (k : Int) == s.toList) = false) := he
        go_wp2_with fail
        go_round
        case rel => exact ⟨k + 1, by omega, by go_num, fun j h => by rcases Nat.lt_succ_iff_lt_or_eq.1 h with h | rfl; exact hall.out j h; exact HE.out⟩
        case measure => simp [intOf]; omega
      · have HN : Hid (codeL s.toList = k) := code_at hlt he hall.out
        go_wp2_with fail
        go_ret
        exact ⟨ret_int HN.out.symm, rfl⟩
    · have HN : Hid (codeL s.toList = 0) := code_none fun j hj => hall.out j (by omega)
      go_wp2_with fail
      go_ret
      exact ⟨ret_int HN.out.symm, rfl⟩

set_option maxHeartbeats 400000 in
theorem func_spec (s : ByteArray) (w : World) : Calls Tryd.prog 11 #[.string s] w fun e w' => e = .returned (.int .i64 (codeL s.toList)) ∧ Below w.heap.size w w' := by
  go_enter Tryd.func11, Tryd.ntmps11
  go_wp2_with fail
  refine (words_spec _).mono ?_
  rintro e w1 ⟨rfl, hB, hT⟩
  have HB : Hid (Below w.heap.size w w1) := hB
  have HT : Hid (TabAt w1 w.heap.size) := hT
  clear hB hT
  go_wp2_with fail
  go_loop [4] (fun t => ∃ k : Nat, 1 ≤ k ∧ k ≤ 8 ∧ t = .int .i64 k ∧ Hid (∀ j : Nat, 1 ≤ j → j < k → (wd (j : Int) == s.toList) = false)) (fun t => 8 - (intOf t).toNat)
  case atStart => exact ⟨1, Nat.le_refl _, by omega, rfl, fun j h h' => absurd h (by omega)⟩
  case round =>
    obtain ⟨k, h1, hk, rfl, hall⟩ := hrel
    by_cases hlt : k < 8
    · have hc := HT.out k hlt
      cases he : wd (k : Int) == s.toList
      · have HE : Hid ((wd (k : Int) == s.toList) = false) := he
        go_wp2_with fail
        go_round
        case rel => exact ⟨k + 1, by omega, by omega, by go_num, fun j g h => by rcases Nat.lt_succ_iff_lt_or_eq.1 h with h | rfl; exact hall.out j g h; exact HE.out⟩
        case measure => simp [intOf]; omega
      · have HN : Hid (codeL s.toList = k) := code_at1 hlt h1 he hall.out
        go_wp2_with fail
        go_ret
        exact ⟨ret_int HN.out.symm, HB.out⟩
    · have HN : Hid (codeL s.toList = 0) := code_none1 fun j g hj => hall.out j g (by omega)
      go_wp2_with fail
      go_ret
      exact ⟨ret_int HN.out.symm, HB.out⟩

set_option maxHeartbeats 400000 in
theorem funcof_spec (s : ByteArray) (w : World) (hs : s.size ≤ maxLen) : Calls Tryd.prog 7 #[.string s] w fun e w' => e = .returned (.int .i64 (codeL s.toList)) ∧ Below w.heap.size w w' := by
  unfold maxLen at hs
  by_cases hb : 65536 < s.size
  · have HN : Hid (codeL s.toList = 0) := code_long (by rw [ByteArray.toList_eq]; have : s.data.toList.length = s.size := rfl; omega)
    go_enter Tryd.func7, Tryd.ntmps7
    go_wp2_with fail
    go_ret
    exact ⟨ret_int HN.out.symm, Below.refl _ _⟩
  · go_enter Tryd.func7, Tryd.ntmps7
    go_wp2_with fail
    refine (func_spec _ _).mono ?_
    rintro e w1 ⟨rfl, hB1⟩
    go_wp2_with fail
    go_ret
    exact ⟨rfl, hB1⟩

theorem tab_below {w w1 : World} (h0 : 0 < w.heap.size) (hT : Tab w) (hB : Below w.heap.size w w1) : Tab w1 := fun k hk => by
  rw [hB.cell (p := ⟨0, k, none⟩) h0]; exact hT k hk

set_option maxHeartbeats 400000 in
theorem law_word (n : Int) (w : World) (h0 : 0 < w.heap.size) (hT : Tab w) : Calls Tryd.prog 3 #[.int .i64 n] w fun e w' => e = .returned (.bool true) ∧ Below w.heap.size w w' := by
  have HT : Hid (Tab w) := hT
  clear hT
  go_enter Tryd.func3, Tryd.ntmps3
  go_wp2_with fail
  refine (word_spec _ _).mono ?_
  rintro e w1 ⟨rfl, hB1⟩
  go_wp2_with fail
  refine (word_impl _ _ (tab_below h0 HT.out hB1)).mono ?_
  rintro e w2 ⟨rfl, rfl⟩
  go_wp2_with fail
  go_ret
  exact ⟨rfl, hB1⟩

set_option maxHeartbeats 400000 in
theorem law_func (s : ByteArray) (w : World) (h0 : 0 < w.heap.size) (hT : Tab w) (hs : s.size ≤ maxLen) : Calls Tryd.prog 4 #[.string s] w fun e w' => e = .returned (.bool true) ∧ Below w.heap.size w w' := by
  have HT : Hid (Tab w) := hT
  clear hT
  have HS : Hid (s.size ≤ maxLen) := hs
  unfold maxLen at hs
  by_cases hb : 1048576 < s.size
  · go_enter Tryd.func4, Tryd.ntmps4
    go_wp2_with fail
    go_ret
    exact ⟨rfl, Below.refl _ _⟩
  · go_enter Tryd.func4, Tryd.ntmps4
    go_wp2_with fail
    refine (funcof_spec _ _ HS.out).mono ?_
    rintro e w1 ⟨rfl, hB1⟩
    go_wp2_with fail
    refine (funcof_impl _ _ (tab_below h0 HT.out hB1)).mono ?_
    rintro e w2 ⟨rfl, rfl⟩
    go_wp2_with fail
    go_ret
    exact ⟨rfl, hB1⟩
end Go.Proofs.YtfjaoiigdjpcfaaDoor
