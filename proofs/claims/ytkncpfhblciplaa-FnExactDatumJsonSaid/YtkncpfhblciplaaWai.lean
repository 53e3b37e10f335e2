import Derived.Test.YtkncpfhblciplaaWah
namespace Go.Proofs.Ytkncpfhblciplaa
open Go.RowKit
set_option linter.unusedSimpArgs false
set_option maxHeartbeats 400000 in
theorem inS (n lo hi : Int) (w : World) : Calls Try.prog 71 #[.int .i64 n, .int .i64 lo, .int .i64 hi] w fun e w' => e = .returned (.bool (inB lo n hi)) ∧ w' = w := by
  go_enter Try.func71, Try.ntmps71
  go_wp2
  all_goals
    go_ret
    refine ⟨ret_b ?_, rfl⟩
    rw [Bool.eq_iff_iff]; simp [inB]; try omega
theorem text_end {s : ByteArray} (ha : ∀ j (hj : j < s.size), charB s[j] = true) : textB s.data.toList = decide ((s.size : Int) ≤ 200) := by
  by_cases h : s.size ≤ 200
  · rw [text_all h ha, decide_eq_true (by omega)]
  · rw [text_long (by omega), decide_eq_false (by omega)]
set_option maxHeartbeats 800000 in
theorem textSs (s : ByteArray) (w : World) (hs : s.size ≤ maxLen) : Calls Try.prog 72 #[.string s] w fun e w' => e = .returned (.bool (textB s.data.toList)) ∧ w' = w := by
  unfold maxLen at hs
  go_enter Try.func72, Try.ntmps72
  go_wp2_with fail
  go_loop [3] (fun t => ∃ k : Nat, k ≤ s.size ∧ t = .int .i64 k ∧ Hid (∀ j (hj : j < s.size), j < k → charB s[j] = true)) (fun t => s.size - (intOf t).toNat)
  case atStart => exact ⟨0, Nat.zero_le _, rfl, fun j hj h => absurd h (by omega)⟩
  case round =>
    obtain ⟨k, hk, rfl, hall⟩ := hrel
    by_cases hlt : k < s.size
    · cases hc : charB s[k]
      · have HN : Hid (textB s.data.toList = false) := text_char k hlt hc
        rcases char_false hc with h1 | h1
        · clear hc
          go_wp2_with fail
          go_ret
          exact ⟨ret_b HN.out.symm, rfl⟩
        · have h2 : decide ((s[k].toNat : Int) < 32) = false := by simp; omega
          clear hc
          go_wp2_with fail
          go_ret
          exact ⟨ret_b HN.out.symm, rfl⟩
      · have HC : Hid (charB s[k] = true) := hc
        obtain ⟨h1, h2⟩ := char_true hc
        clear hc
        go_wp2_with fail
        go_round
        case rel => exact ⟨k + 1, by omega, by go_num, fun j hj h => by rcases Nat.lt_succ_iff_lt_or_eq.1 h with h | rfl; exact hall.out j hj h; exact HC.out⟩
        case measure => simp [intOf]; omega
    · have HN : Hid (textB s.data.toList = decide ((s.size : Int) ≤ 200)) := text_end (fun j hj => hall.out j hj (by omega))
      go_wp2_with fail
      all_goals
        go_ret
        exact ⟨ret_b HN.out.symm, rfl⟩
theorem textS (t : List UInt8) (w : World) (hs : t.length ≤ maxLen) : Calls Try.prog 72 #[.string ⟨t.toArray⟩] w fun e w' => e = .returned (.bool (textB t)) ∧ w' = w :=
  textSs ⟨t.toArray⟩ w (by show t.toArray.size ≤ maxLen; simpa using hs)
end Go.Proofs.Ytkncpfhblciplaa
