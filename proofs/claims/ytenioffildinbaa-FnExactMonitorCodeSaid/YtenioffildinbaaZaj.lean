import Derived.Test.YtenioffildinbaaZad
import Derived.Deep.QuietTactic
import Derived.BigQuiet
import Derived.Deep.RegionWith
namespace Go.Proofs.Ytenioffildinbaa
open Go.RowKit
theorem at_l (s : ByteArray) (k : Nat) (h : k < s.size) : s.data.toList[k]'(by simpa using h) = s[k] := rfl
theorem text_long {s : ByteArray} (h : 200 < s.size) : textB s.data.toList = false := by
  unfold textB
  have e : s.data.toList.length = s.size := rfl
  rw [e, decide_eq_false (by omega)]; rfl
theorem text_char {s : ByteArray} (k : Nat) (h : k < s.size) (hc : charB s[k] = false) : textB s.data.toList = false := by
  unfold textB
  have : s.data.toList.all charB = false := by
    rw [List.all_eq_false]; exact ⟨s[k], by rw [← at_l s k h]; exact List.getElem_mem _, by simp [hc]⟩
  rw [this]; simp
theorem text_all {s : ByteArray} (h : s.size ≤ 200) (ha : ∀ j (hj : j < s.size), charB s[j] = true) : textB s.data.toList = true := by
  unfold textB
  have e : s.data.toList.length = s.size := rfl
  have : s.data.toList.all charB = true := by
    rw [List.all_eq_true]; intro c hc
    obtain ⟨j, hj, rfl⟩ := List.mem_iff_getElem.1 hc
    rw [at_l s j (by simpa using hj)]; exact ha j _
  rw [this, e, decide_eq_true (by omega)]; rfl
theorem char_true {c : UInt8} (h : charB c = true) : 32 ≤ (c.toNat : Int) ∧ (c.toNat : Int) ≤ 126 := by unfold charB at h; exact of_decide_eq_true h
theorem char_false {c : UInt8} (h : charB c = false) : (c.toNat : Int) < 32 ∨ 126 < (c.toNat : Int) := by unfold charB at h; have := of_decide_eq_false h; omega
set_option maxHeartbeats 800000 in
theorem textOKs (s : ByteArray) (w : World) (hs : s.size ≤ maxLen) : Calls Try.prog 122 #[.string s] w fun e w' => e = .returned (.bool (textB s.data.toList)) ∧ w' = w := by
  unfold maxLen at hs
  by_cases hz : 200 < s.size
  · have HN : Hid (textB s.data.toList = false) := text_long hz
    go_enter Try.func122, Try.ntmps122
    go_wp2_with fail
    go_ret
    exact ⟨ret_b HN.out.symm, rfl⟩
  · have b2 : decide (200 < (s.size : Int)) = false := by simp; omega
    go_enter Try.func122, Try.ntmps122
    go_wp2_with fail
    go_loop [9] (fun t => ∃ k : Nat, k ≤ s.size ∧ t = .int .i64 k ∧ Hid (∀ j (hj : j < s.size), j < k → charB s[j] = true)) (fun t => s.size - (intOf t).toNat)
    case atStart => exact ⟨0, Nat.zero_le _, rfl, fun j hj h => absurd h (by omega)⟩
    case round =>
      obtain ⟨k, hk, rfl, hall⟩ := hrel
      by_cases hlt : k < s.size
      · cases hc : charB s[k]
        · have HN : Hid (textB s.data.toList = false) := text_char k hlt hc
          rcases char_false hc with h1 | h1
          · clear hc
            go_wp2_with fail
            go_ret
            exact ⟨ret_b HN.out.symm, rfl⟩
          · have h2 : decide ((s[k].toNat : Int) < 32) = false := by simp; omega
            clear hc
            go_wp2_with fail
            go_ret
            exact ⟨ret_b HN.out.symm, rfl⟩
        · have HC : Hid (charB s[k] = true) := hc
          obtain ⟨h1, h2⟩ := char_true hc
          clear hc
          go_wp2_with fail
          go_round
          case rel => exact ⟨k + 1, by omega, by go_num, fun j hj h => by rcases Nat.lt_succ_iff_lt_or_eq.1 h with h | rfl; exact hall.out j hj h; exact HC.out⟩
          case measure => simp [intOf]; omega
      · have HN : Hid (textB s.data.toList = true) := text_all (by omega) (fun j hj => hall.out j hj (by omega))
        go_wp2_with fail
        go_ret
        exact ⟨ret_b HN.out.symm, rfl⟩
theorem textOK (t : List UInt8) (w : World) (hs : t.length ≤ maxLen) : Calls Try.prog 122 #[.string ⟨t.toArray⟩] w fun e w' => e = .returned (.bool (textB t)) ∧ w' = w :=
  textOKs ⟨t.toArray⟩ w (by show t.toArray.size ≤ maxLen; simpa using hs)
end Go.Proofs.Ytenioffildinbaa
