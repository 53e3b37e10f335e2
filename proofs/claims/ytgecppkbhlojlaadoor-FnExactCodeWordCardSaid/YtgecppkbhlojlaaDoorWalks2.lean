import Derived.Test.YtgecppkbhlojlaaDoorWalks
namespace Go.Proofs.YtgecppkbhlojlaaDoor
open Go.RowKit
theorem ret_int {a b : Int} (h : a = b) : Ending.returned (.int .i64 a) = .returned (.int .i64 b) := by rw [h]

set_option maxHeartbeats 400000 in
theorem word_impl (n : Int) (w : World) (hT : Tab w) : Calls Tryd.prog 6 #[.int .i64 n] w fun e w' => e = .returned (.string ⟨(wd n).toArray⟩) ∧ w' = w := by
  by_cases hz : n < 0 ∨ 20 ≤ n
  · rw [wd_out hz]
    rcases hz with hz | hz
    · go_enter Tryd.func6, Tryd.ntmps6
      go_wp2_with fail
      go_ret
      exact ⟨rfl, rfl⟩
    · have hz' : 0 ≤ n := by omega
      go_enter Tryd.func6, Tryd.ntmps6
      go_wp2_with fail
      go_ret
      exact ⟨rfl, rfl⟩
  · obtain ⟨k, rfl⟩ := Int.eq_ofNat_of_zero_le (show 0 ≤ n by omega)
    have hk : k < 20 := by omega
    have hc := hT k hk
    clear hT hz
    generalize wd (k : Int) = s at *
    go_enter Tryd.func6, Tryd.ntmps6
    go_wp2_with fail
    go_ret
    exact ⟨rfl, rfl⟩

set_option maxHeartbeats 400000 in
theorem codeof_impl (s : ByteArray) (w : World) (hT : Tab w) : Calls Tryd.prog 8 #[.string s] w fun e w' => e = .returned (.int .i64 (codeL s.toList)) ∧ w' = w := by
  have HT : Hid (Tab w) := hT
  clear hT
  go_enter Tryd.func8, Tryd.ntmps8
  go_wp2_with fail
  go_loop [4] (fun t => ∃ k : Nat, k ≤ 20 ∧ t = .int .i64 k ∧ Hid (∀ j : Nat, j < k → (wd (j : Int) == s.toList) = false)) (fun t => 20 - (intOf t).toNat)
  case atStart => exact ⟨0, Nat.zero_le _, rfl, fun j h => absurd h (by omega)⟩
  case round =>
    obtain ⟨k, hk, rfl, hall⟩ := hrel
    by_cases hlt : k < 20
    · have hc := HT.out k hlt
      cases he : wd (k : Int) == s.toList
      · have HE : Hid ((wd (k : Int) == s.toList) = false) := he
        go_wp2_with fail
        go_round
        case rel => exact ⟨k + 1, by omega, by go_num, fun j h => by rcases Nat.lt_succ_iff_lt_or_eq.1 h with h | rfl; exact hall.out j h; exact HE.out⟩
        case measure => simp [intOf]; omega
      · have HN : Hid (codeL s.toList = k) := code_at hlt he hall.out
        go_wp2_with fail
        go_ret
        exact ⟨ret_int HN.out.symm, rfl⟩
    · have HN : Hid (codeL s.toList = -1) := code_none fun j hj => hall.out j (by omega)
      go_wp2_with fail
      go_ret
      exact ⟨ret_int HN.out.symm, rfl⟩

set_option maxHeartbeats 400000 in
theorem codeof_spec (s : ByteArray) (w : World) : Calls Tryd.prog 7 #[.string s] w fun e w' => e = .returned (.int .i64 (codeL s.toList)) ∧ Below w.heap.size w w' := by
  go_enter Tryd.func7, Tryd.ntmps7
  go_wp2_with fail
  go_loopw [3] (fun t wr => ∃ k : Nat, k ≤ 20 ∧ t = .int .i64 k ∧ Hid (∀ j : Nat, j < k → (wd (j : Int) == s.toList) = false) ∧ Below w.heap.size w wr) (fun t _ => 20 - (intOf t).toNat)
  case atStart => exact ⟨0, Nat.zero_le _, rfl, fun j h => absurd h (by omega), Below.refl _ _⟩
  case round =>
    obtain ⟨k, hk, rfl, hall, hB⟩ := hrel
    by_cases hlt : k < 20
    · cases he : wd (k : Int) == s.toList
      · have HE : Hid ((wd (k : Int) == s.toList) = false) := he
        go_wp2_with fail
        refine (word_spec _ _).mono ?_
        rintro e w1 ⟨rfl, hB1⟩
        have hB2 : Below w.heap.size w w1 := hB.trans (hB1.mono hB.size)
        clear hB hB1
        go_wp2_with fail
        go_roundw
        case rel => exact ⟨k + 1, by omega, by go_num, fun j h => by rcases Nat.lt_succ_iff_lt_or_eq.1 h with h | rfl; exact hall.out j h; exact HE.out, hB2⟩
        case measure => simp [intOf]; omega
      · have HN : Hid (codeL s.toList = k) := code_at hlt he hall.out
        go_wp2_with fail
        refine (word_spec _ _).mono ?_
        rintro e w1 ⟨rfl, hB1⟩
        have hB2 : Below w.heap.size w w1 := hB.trans (hB1.mono hB.size)
        clear hB hB1
        go_wp2_with fail
        go_ret
        exact ⟨ret_int HN.out.symm, hB2⟩
    · have HN : Hid (codeL s.toList = -1) := code_none fun j hj => hall.out j (by omega)
      go_wp2_with fail
      go_ret
      exact ⟨ret_int HN.out.symm, hB⟩

theorem tab_below {w w1 : World} (h0 : 0 < w.heap.size) (hT : Tab w) (hB : Below w.heap.size w w1) : Tab w1 := fun k hk => by
  rw [hB.cell (p := ⟨0, k, none⟩) h0]; exact hT k hk

set_option maxHeartbeats 400000 in
theorem law_word (n : Int) (w : World) (h0 : 0 < w.heap.size) (hT : Tab w) : Calls Tryd.prog 3 #[.int .i64 n] w fun e w' => e = .returned (.bool true) ∧ Below w.heap.size w w' := by
  have HT : Hid (Tab w) := hT
  clear hT
  go_enter Tryd.func3, Tryd.ntmps3
  go_wp2_with fail
  refine (word_spec _ _).mono ?_
  rintro e w1 ⟨rfl, hB1⟩
  go_wp2_with fail
  refine (word_impl _ _ (tab_below h0 HT.out hB1)).mono ?_
  rintro e w2 ⟨rfl, rfl⟩
  go_wp2_with fail
  go_ret
  exact ⟨rfl, hB1⟩

set_option maxHeartbeats 400000 in
theorem law_code (s : ByteArray) (w : World) (h0 : 0 < w.heap.size) (hT : Tab w) (hs : s.size ≤ maxLen) : Calls Tryd.prog 4 #[.string s] w fun e w' => e = .returned (.bool true) ∧ Below w.heap.size w w' := by
  have HT : Hid (Tab w) := hT
  clear hT
  unfold maxLen at hs
  by_cases hb : 1048576 < s.size
  · go_enter Tryd.func4, Tryd.ntmps4
    go_wp2_with fail
    go_ret
    exact ⟨rfl, Below.refl _ _⟩
  · go_enter Tryd.func4, Tryd.ntmps4
    go_wp2_with fail
    refine (codeof_spec _ _).mono ?_
    rintro e w1 ⟨rfl, hB1⟩
    go_wp2_with fail
    refine (codeof_impl _ _ (tab_below h0 HT.out hB1)).mono ?_
    rintro e w2 ⟨rfl, rfl⟩
    go_wp2_with fail
    go_ret
    exact ⟨rfl, hB1⟩
end Go.Proofs.YtgecppkbhlojlaaDoor
