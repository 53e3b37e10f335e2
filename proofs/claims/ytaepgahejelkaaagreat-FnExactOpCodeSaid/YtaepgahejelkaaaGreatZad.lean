import Derived.Test.YtaepgahejelkaaaGreatZab
import Derived.Deep.QuietTactic
import Derived.BigQuiet
import Derived.Deep.RegionWith
import Derived.Test.YtaepgahejelkaaaGreatProg
import Derived.WalkKit
import Derived.WalkSpells
import Derived.WalkLawsBesides
namespace Go.Proofs.YtaepgahejelkaaaGreat
open Go.RowKit
theorem at_l (s : ByteArray) (k : Nat) (h : k < s.size) : s.data.toList[k]'(by simpa using h) = s[k] := rfl
theorem text_long {s : ByteArray} (h : 200 < s.size) : textB s.data.toList = false := by
  unfold textB
  have e : s.data.toList.length = s.size := rfl
  rw [e, decide_eq_false (by omega)]; rfl
theorem text_char {s : ByteArray} (k : Nat) (h : k < s.size) (hc : charB s[k] = false) : textB s.data.toList = false := by
  unfold textB
  have : s.data.toList.all charB = false := by
    rw [List.all_eq_false]; exact ⟨s[k], by rw [← at_l s k h]; exact List.getElem_mem _, by simp [hc]⟩
  rw [this]; simp
theorem text_all {s : ByteArray} (h : s.size ≤ 200) (ha : ∀ j (hj : j < s.size), charB s[j] = true) : textB s.data.toList = true := by
  unfold textB
  have e : s.data.toList.length = s.size := rfl
  have : s.data.toList.all charB = true := by
    rw [List.all_eq_true]; intro c hc
    obtain ⟨j, hj, rfl⟩ := List.mem_iff_getElem.1 hc
    rw [at_l s j (by simpa using hj)]; exact ha j _
  rw [this, e, decide_eq_true (by omega)]; rfl
theorem char_true {c : UInt8} (h : charB c = true) : 32 ≤ (c.toNat : Int) ∧ (c.toNat : Int) ≤ 126 := by unfold charB at h; exact of_decide_eq_true h
theorem char_false {c : UInt8} (h : charB c = false) : (c.toNat : Int) < 32 ∨ 126 < (c.toNat : Int) := by unfold charB at h; have := of_decide_eq_false h; omega
set_option maxHeartbeats 800000 in
theorem textOKs (s : ByteArray) (w : World) (hs : s.size ≤ maxLen) : Calls Tryz.prog 138 #[.string s] w fun e w' => e = .returned (.bool (textB s.data.toList)) ∧ w' = w := by
  unfold maxLen at hs
  by_cases hz : 200 < s.size
  · have HN : Hid (textB s.data.toList = false) := text_long hz
    go_enter Tryz.func138, Tryz.ntmps138
    go_wp2_with fail
    go_ret
    exact ⟨ret_b HN.out.symm, rfl⟩
  · have b2 : decide (200 < (s.size : Int)) = false := by simp; omega
    go_enter Tryz.func138, Tryz.ntmps138
    go_wp2_with fail
    go_loop [9] (fun t => ∃ k : Nat, k ≤ s.size ∧ t = .int .i64 k ∧ Hid (∀ j (hj : j < s.size), j < k → charB s[j] = true)) (fun t => s.size - (intOf t).toNat)
    case atStart => exact ⟨0, Nat.zero_le _, rfl, fun j hj h => absurd h (by omega)⟩
    case round =>
      obtain ⟨k, hk, rfl, hall⟩ := hrel
      by_cases hlt : k < s.size
      · cases hc : charB s[k]
        · have HN : Hid (textB s.data.toList = false) := text_char k hlt hc
          rcases char_false hc with h1 | h1
          · clear hc
            go_wp2_with fail
            go_ret
            exact ⟨ret_b HN.out.symm, rfl⟩
          · have h2 : decide ((s[k].toNat : Int) < 32) = false := by simp; omega
            clear hc
            go_wp2_with fail
            go_ret
            exact ⟨ret_b HN.out.symm, rfl⟩
        · have HC : Hid (charB s[k] = true) := hc
          obtain ⟨h1, h2⟩ := char_true hc
          clear hc
          go_wp2_with fail
          go_round
          case rel => exact ⟨k + 1, by omega, by go_num, fun j hj h => by rcases Nat.lt_succ_iff_lt_or_eq.1 h with h | rfl; exact hall.out j hj h; exact HC.out⟩
          case measure => simp [intOf]; omega
      · have HN : Hid (textB s.data.toList = true) := text_all (by omega) (fun j hj => hall.out j hj (by omega))
        go_wp2_with fail
        go_ret
        exact ⟨ret_b HN.out.symm, rfl⟩
theorem textOK (t : List UInt8) (w : World) (hs : t.length ≤ maxLen) : Calls Tryz.prog 138 #[.string ⟨t.toArray⟩] w fun e w' => e = .returned (.bool (textB t)) ∧ w' = w :=
  textOKs ⟨t.toArray⟩ w (by show t.toArray.size ≤ maxLen; simpa using hs)
end Go.Proofs.YtaepgahejelkaaaGreat
namespace Go.Proofs.YtaepgahejelkaaaGreat
open Go.RowKit
set_option linter.unusedSimpArgs false
set_option maxHeartbeats 400000 in
theorem numberOK (n : Int) (w : World) : Calls Tryz.prog 121 #[.int .i64 n] w fun e w' => e = .returned (.bool (inB (-1000000000) n 1000000000)) ∧ w' = w := by
  go_enter Tryz.func121, Tryz.ntmps121
  go_wp2
  all_goals
    go_ret
    refine ⟨ret_b ?_, rfl⟩
    rw [Bool.eq_iff_iff]; simp [inB]; try omega
end Go.Proofs.YtaepgahejelkaaaGreat
namespace Go.Proofs.YtaepgahejelkaaaGreat
open Go.RowKit
set_option linter.unusedSimpArgs false
set_option maxHeartbeats 400000 in
theorem inS (n lo hi : Int) (w : World) : Calls Tryz.prog 38 #[.int .i64 n, .int .i64 lo, .int .i64 hi] w fun e w' => e = .returned (.bool (inB lo n hi)) ∧ w' = w := by
  go_enter Tryz.func38, Tryz.ntmps38
  go_wp2
  all_goals
    go_ret
    refine ⟨ret_b ?_, rfl⟩
    rw [Bool.eq_iff_iff]; simp [inB]; try omega
theorem text_end {s : ByteArray} (ha : ∀ j (hj : j < s.size), charB s[j] = true) : textB s.data.toList = decide ((s.size : Int) ≤ 200) := by
  by_cases h : s.size ≤ 200
  · rw [text_all h ha, decide_eq_true (by omega)]
  · rw [text_long (by omega), decide_eq_false (by omega)]
set_option maxHeartbeats 800000 in
theorem textSs (s : ByteArray) (w : World) (hs : s.size ≤ maxLen) : Calls Tryz.prog 131 #[.string s] w fun e w' => e = .returned (.bool (textB s.data.toList)) ∧ w' = w := by
  unfold maxLen at hs
  go_enter Tryz.func131, Tryz.ntmps131
  go_wp2_with fail
  go_loop [3] (fun t => ∃ k : Nat, k ≤ s.size ∧ t = .int .i64 k ∧ Hid (∀ j (hj : j < s.size), j < k → charB s[j] = true)) (fun t => s.size - (intOf t).toNat)
  case atStart => exact ⟨0, Nat.zero_le _, rfl, fun j hj h => absurd h (by omega)⟩
  case round =>
    obtain ⟨k, hk, rfl, hall⟩ := hrel
    by_cases hlt : k < s.size
    · cases hc : charB s[k]
      · have HN : Hid (textB s.data.toList = false) := text_char k hlt hc
        rcases char_false hc with h1 | h1
        · clear hc
          go_wp2_with fail
          go_ret
          exact ⟨ret_b HN.out.symm, rfl⟩
        · have h2 : decide ((s[k].toNat : Int) < 32) = false := by simp; omega
          clear hc
          go_wp2_with fail
          go_ret
          exact ⟨ret_b HN.out.symm, rfl⟩
      · have HC : Hid (charB s[k] = true) := hc
        obtain ⟨h1, h2⟩ := char_true hc
        clear hc
        go_wp2_with fail
        go_round
        case rel => exact ⟨k + 1, by omega, by go_num, fun j hj h => by rcases Nat.lt_succ_iff_lt_or_eq.1 h with h | rfl; exact hall.out j hj h; exact HC.out⟩
        case measure => simp [intOf]; omega
    · have HN : Hid (textB s.data.toList = decide ((s.size : Int) ≤ 200)) := text_end (fun j hj => hall.out j hj (by omega))
      go_wp2_with fail
      all_goals
        go_ret
        exact ⟨ret_b HN.out.symm, rfl⟩
theorem textS (t : List UInt8) (w : World) (hs : t.length ≤ maxLen) : Calls Tryz.prog 131 #[.string ⟨t.toArray⟩] w fun e w' => e = .returned (.bool (textB t)) ∧ w' = w :=
  textSs ⟨t.toArray⟩ w (by show t.toArray.size ≤ maxLen; simpa using hs)
end Go.Proofs.YtaepgahejelkaaaGreat
namespace Go.Proofs.YtaepgahejelkaaaGreat
open Go.RowKit
def letB (n : Int) : Bool := decide (97 ≤ n ∧ n ≤ 122 ∨ 65 ≤ n ∧ n ≤ 90 ∨ n = 95)
def digB (n : Int) : Bool := decide (48 ≤ n ∧ n ≤ 57)
def chB (c : UInt8) : Bool := letB c.toNat || digB c.toNat
def nameB (l : List UInt8) : Bool := decide (1 ≤ l.length ∧ l.length ≤ 40) && (letB (l.getD 0 0).toNat && l.all chB)
theorem let_dig {n : Int} (h : letB n = true) : digB n = false := by
  unfold letB at h; unfold digB; simp at h; simp; omega
theorem at_listN (s : ByteArray) (k : Nat) (h : k < s.size) : s.data.toList[k]'(by simpa using h) = s[k] := rfl
theorem name_size {s : ByteArray} (h : s.size < 1 ∨ 40 < s.size) : nameB s.data.toList = false := by
  unfold nameB
  have : decide (1 ≤ s.data.toList.length ∧ s.data.toList.length ≤ 40) = false := by
    have e : s.data.toList.length = s.size := rfl
    rw [e]; simp; omega
  rw [this]; rfl
theorem name_first {s : ByteArray} (h : 0 < s.size) (hl : letB (s[0].toNat : Int) = false) : nameB s.data.toList = false := by
  unfold nameB
  have e : s.data.toList.getD 0 0 = s[0] := by
    rw [List.getD_eq_getElem?_getD, List.getElem?_eq_getElem (by simpa using h)]; rfl
  rw [e, hl]; simp
theorem name_char {s : ByteArray} (k : Nat) (h : k < s.size) (h1 : letB (s[k].toNat : Int) = false) (h2 : digB (s[k].toNat : Int) = false) : nameB s.data.toList = false := by
  unfold nameB
  have : s.data.toList.all chB = false := by
    rw [List.all_eq_false]
    exact ⟨s[k], by rw [← at_listN s k h]; exact List.getElem_mem _, by unfold chB; rw [h1, h2]; simp⟩
  rw [this]; simp
theorem name_all {s : ByteArray} (h1 : 1 ≤ s.size) (h2 : s.size ≤ 40) (hl : letB (s[0].toNat : Int) = true) (ha : ∀ j (hj : j < s.size), 1 ≤ j → chB s[j] = true) : nameB s.data.toList = true := by
  unfold nameB
  have e : s.data.toList.getD 0 0 = s[0] := by
    rw [List.getD_eq_getElem?_getD, List.getElem?_eq_getElem (show 0 < s.data.toList.length by have e : s.data.toList.length = s.size := rfl; omega)]; rfl
  have el : s.data.toList.length = s.size := rfl
  have ea : s.data.toList.all chB = true := by
    rw [List.all_eq_true]
    intro c hc
    obtain ⟨j, hj, rfl⟩ := List.mem_iff_getElem.1 hc
    have hj' : j < s.size := by simpa using hj
    rw [at_listN s j hj']
    by_cases j0 : j = 0
    · subst j0; unfold chB; rw [hl]; rfl
    · exact ha j hj' (by omega)
  rw [e, hl, ea, el]; simp; omega
theorem ret_boolN {a b : Bool} (h : a = b) : Ending.returned (.bool a) = .returned (.bool b) := by rw [h]
set_option maxHeartbeats 400000 in
theorem digit_impl (n : Int) (w : World) : Calls Tryz.prog 119 #[.int .u8 n] w fun e w' => e = .returned (.bool (digB n)) ∧ w' = w := by
  go_enter Tryz.func119, Tryz.ntmps119
  go_wp2
  all_goals
    go_ret
    refine ⟨ret_boolN ?_, rfl⟩
    rw [Bool.eq_iff_iff]; simp [digB]; try omega
set_option maxHeartbeats 400000 in
theorem letter_impl (n : Int) (w : World) : Calls Tryz.prog 120 #[.int .u8 n] w fun e w' => e = .returned (.bool (letB n)) ∧ w' = w := by
  go_enter Tryz.func120, Tryz.ntmps120
  go_wp2
  all_goals
    go_ret
    refine ⟨ret_boolN ?_, rfl⟩
    rw [Bool.eq_iff_iff]; simp [letB]; try omega
set_option maxHeartbeats 400000 in
theorem letter_spec (n : Int) (w : World) : Calls Tryz.prog 115 #[.int .u8 n] w fun e w' => e = .returned (.bool (letB n)) ∧ w' = w := by
  go_enter Tryz.func115, Tryz.ntmps115
  go_wp2
  all_goals
    go_ret
    refine ⟨ret_boolN ?_, rfl⟩
    rw [Bool.eq_iff_iff]; simp [letB]; try omega
set_option maxHeartbeats 400000 in
theorem digit_spec (n : Int) (w : World) : Calls Tryz.prog 116 #[.int .u8 n] w fun e w' => e = .returned (.bool (digB n)) ∧ w' = w := by
  go_enter Tryz.func116, Tryz.ntmps116
  go_wp2
  all_goals
    go_ret
    refine ⟨ret_boolN ?_, rfl⟩
    rw [Bool.eq_iff_iff]; simp [digB]; try omega
set_option maxHeartbeats 800000 in
theorem name_impl (s : ByteArray) (w : World) (hs : s.size ≤ maxLen) :
    Calls Tryz.prog 88 #[.string s] w fun e w' => e = .returned (.bool (nameB s.data.toList)) ∧ w' = w := by
  unfold maxLen at hs
  by_cases hz : s.size < 1 ∨ 40 < s.size
  · have HN : Hid (nameB s.data.toList = false) := name_size hz
    rcases hz with hz | hz
    · go_enter Tryz.func88, Tryz.ntmps88
      go_wp2_with fail
      go_ret
      exact ⟨ret_boolN HN.out.symm, rfl⟩
    · go_enter Tryz.func88, Tryz.ntmps88
      go_wp2_with fail
      go_ret
      exact ⟨ret_boolN HN.out.symm, rfl⟩
  · have h1 : 1 ≤ s.size := by omega
    have h2 : s.size ≤ 40 := by omega
    have b1 : decide ((s.size : Int) < 1) = false := by simp; omega
    have b2 : decide (40 < (s.size : Int)) = false := by simp; omega
    clear hz
    cases hd : digB (s[0].toNat : Int)
    · go_enter Tryz.func88, Tryz.ntmps88
      go_wp2_with fail
      refine (digit_impl _ _).mono ?_
      rintro e w' ⟨rfl, rfl⟩
      go_wp2_with fail
      go_loop [19] (fun t => ∃ k : Nat, k ≤ s.size ∧ t = .int .i64 k ∧ Hid (∀ j (hj : j < s.size), j < k → chB s[j] = true)) (fun t => s.size - (intOf t).toNat)
      case atStart => exact ⟨0, Nat.zero_le _, rfl, fun j hj h => absurd h (by omega)⟩
      case round =>
        obtain ⟨k, hk, rfl, hall⟩ := hrel
        by_cases hlt : k < s.size
        · cases hL : letB (s[k].toNat : Int)
          · cases hD : digB (s[k].toNat : Int)
            · have HN : Hid (nameB s.data.toList = false) := name_char k hlt hL hD
              go_wp2_with (first | (go_at_call 120; refine (letter_impl _ _).mono ?_; rintro e w' ⟨rfl, rfl⟩) | (go_at_call 119; refine (digit_impl _ _).mono ?_; rintro e w' ⟨rfl, rfl⟩))
              go_ret
              exact ⟨ret_boolN HN.out.symm, rfl⟩
            · have HC : Hid (chB s[k] = true) := by show chB s[k] = true; unfold chB; rw [hL, hD]; rfl
              go_wp2_with (first | (go_at_call 120; refine (letter_impl _ _).mono ?_; rintro e w' ⟨rfl, rfl⟩) | (go_at_call 119; refine (digit_impl _ _).mono ?_; rintro e w' ⟨rfl, rfl⟩))
              go_round
              case rel => exact ⟨k + 1, by omega, by go_num, fun j hj h => by rcases Nat.lt_succ_iff_lt_or_eq.1 h with h | rfl; exact hall.out j hj h; exact HC.out⟩
              case measure => simp [intOf]; omega
          · have HC : Hid (chB s[k] = true) := by show chB s[k] = true; unfold chB; rw [hL]; rfl
            go_wp2_with (first | (go_at_call 120; refine (letter_impl _ _).mono ?_; rintro e w' ⟨rfl, rfl⟩) | (go_at_call 119; refine (digit_impl _ _).mono ?_; rintro e w' ⟨rfl, rfl⟩))
            go_round
            case rel => exact ⟨k + 1, by omega, by go_num, fun j hj h => by rcases Nat.lt_succ_iff_lt_or_eq.1 h with h | rfl; exact hall.out j hj h; exact HC.out⟩
            case measure => simp [intOf]; omega
        · have HN : Hid (nameB s.data.toList = true) := by
            have ha : ∀ j (hj : j < s.size), chB s[j] = true := fun j hj => hall.out j hj (by omega)
            have h0 := ha 0 h1
            refine name_all h1 h2 ?_ (fun j hj _ => ha j hj)
            unfold chB at h0; rw [hd] at h0; simpa using h0
          go_wp2_with fail
          go_ret
          exact ⟨ret_boolN HN.out.symm, rfl⟩
    · have HN : Hid (nameB s.data.toList = false) := by
        refine name_first h1 ?_
        cases hl : letB (s[0].toNat : Int)
        · rfl
        · have := let_dig hl; rw [this] at hd; cases hd
      go_enter Tryz.func88, Tryz.ntmps88
      go_wp2_with fail
      refine (digit_impl _ _).mono ?_
      rintro e w' ⟨rfl, rfl⟩
      go_wp2_with fail
      go_ret
      exact ⟨ret_boolN HN.out.symm, rfl⟩
set_option maxHeartbeats 800000 in
theorem name_spec (s : ByteArray) (w : World) (hs : s.size ≤ maxLen) :
    Calls Tryz.prog 82 #[.string s] w fun e w' => e = .returned (.bool (nameB s.data.toList)) ∧ w' = w := by
  unfold maxLen at hs
  by_cases hz : s.size < 1 ∨ 40 < s.size
  · have HN : Hid (nameB s.data.toList = false) := name_size hz
    rcases hz with hz | hz
    · go_enter Tryz.func82, Tryz.ntmps82
      go_wp2_with fail
      go_ret
      exact ⟨ret_boolN HN.out.symm, rfl⟩
    · go_enter Tryz.func82, Tryz.ntmps82
      go_wp2_with fail
      go_ret
      exact ⟨ret_boolN HN.out.symm, rfl⟩
  · have h1 : 1 ≤ s.size := by omega
    have h2 : s.size ≤ 40 := by omega
    have b1 : decide ((s.size : Int) < 1) = false := by simp; omega
    have b2 : decide (40 < (s.size : Int)) = false := by simp; omega
    clear hz
    cases hd : letB (s[0].toNat : Int)
    · have HN : Hid (nameB s.data.toList = false) := name_first h1 hd
      go_enter Tryz.func82, Tryz.ntmps82
      go_wp2_with fail
      refine (letter_spec _ _).mono ?_
      rintro e w' ⟨rfl, rfl⟩
      go_wp2_with fail
      go_ret
      exact ⟨ret_boolN HN.out.symm, rfl⟩
    · go_enter Tryz.func82, Tryz.ntmps82
      go_wp2_with fail
      refine (letter_spec _ _).mono ?_
      rintro e w' ⟨rfl, rfl⟩
      go_wp2_with fail
      go_loop [3] (fun t => ∃ k : Nat, 1 ≤ k ∧ k ≤ s.size ∧ t = .int .i64 k ∧ Hid (∀ j (hj : j < s.size), 1 ≤ j → j < k → chB s[j] = true)) (fun t => s.size - (intOf t).toNat)
      case atStart => exact ⟨1, by omega, h1, rfl, fun j hj h h' => absurd h (by omega)⟩
      case round =>
        obtain ⟨k, hk1, hk, rfl, hall⟩ := hrel
        by_cases hlt : k < s.size
        · cases hL : letB (s[k].toNat : Int)
          · cases hD : digB (s[k].toNat : Int)
            · have HN : Hid (nameB s.data.toList = false) := name_char k hlt hL hD
              go_wp2_with (first | (go_at_call 115; refine (letter_spec _ _).mono ?_; rintro e w' ⟨rfl, rfl⟩) | (go_at_call 116; refine (digit_spec _ _).mono ?_; rintro e w' ⟨rfl, rfl⟩))
              go_ret
              exact ⟨ret_boolN HN.out.symm, rfl⟩
            · have HC : Hid (chB s[k] = true) := by show chB s[k] = true; unfold chB; rw [hL, hD]; rfl
              go_wp2_with (first | (go_at_call 115; refine (letter_spec _ _).mono ?_; rintro e w' ⟨rfl, rfl⟩) | (go_at_call 116; refine (digit_spec _ _).mono ?_; rintro e w' ⟨rfl, rfl⟩))
              go_round
              case rel => exact ⟨k + 1, by omega, by omega, by go_num, fun j hj h' h => by rcases Nat.lt_succ_iff_lt_or_eq.1 h with h | rfl; exact hall.out j hj h' h; exact HC.out⟩
              case measure => simp [intOf]; omega
          · have HC : Hid (chB s[k] = true) := by show chB s[k] = true; unfold chB; rw [hL]; rfl
            go_wp2_with (first | (go_at_call 115; refine (letter_spec _ _).mono ?_; rintro e w' ⟨rfl, rfl⟩) | (go_at_call 116; refine (digit_spec _ _).mono ?_; rintro e w' ⟨rfl, rfl⟩))
            go_round
            case rel => exact ⟨k + 1, by omega, by omega, by go_num, fun j hj h' h => by rcases Nat.lt_succ_iff_lt_or_eq.1 h with h | rfl; exact hall.out j hj h' h; exact HC.out⟩
            case measure => simp [intOf]; omega
        · have HN : Hid (nameB s.data.toList = true) := name_all h1 h2 hd (fun j hj h => hall.out j hj h (by omega))
          go_wp2_with fail
          go_ret
          exact ⟨ret_boolN HN.out.symm, rfl⟩
theorem name_face (s : ByteArray) (w : World) (hs : s.size ≤ maxLen) :
    Calls Tryz.prog 44 #[.string s] w fun e w' => e = .returned (.bool (nameB s.data.toList)) ∧ w' = w := by
  go_enter Tryz.func44, Tryz.ntmps44
  go_wp2_with fail
  refine (name_spec s _ hs).mono ?_
  rintro e w' ⟨rfl, rfl⟩
  go_wp2_with fail
  go_ret
  exact ⟨rfl, rfl⟩
theorem nameI (t : List UInt8) (w : World) (hs : t.length ≤ maxLen) : Calls Tryz.prog 88 #[.string ⟨t.toArray⟩] w fun e w' => e = .returned (.bool (nameB t)) ∧ w' = w := by
  have := name_impl ⟨t.toArray⟩ w (by show t.toArray.size ≤ maxLen; simpa using hs)
  exact this
theorem nameS (t : List UInt8) (w : World) (hs : t.length ≤ maxLen) : Calls Tryz.prog 44 #[.string ⟨t.toArray⟩] w fun e w' => e = .returned (.bool (nameB t)) ∧ w' = w := by
  have := name_face ⟨t.toArray⟩ w (by show t.toArray.size ≤ maxLen; simpa using hs)
  exact this
end Go.Proofs.YtaepgahejelkaaaGreat
