import Derived.Test.YthpenliecgpedaaProg
import Derived.WalkKit
import Derived.WalkSpells
import Derived.WalkLawsBesides
namespace Go.Proofs.Ythpenliecgpedaa
open Go.RowKit
def letB (n : Int) : Bool := decide (97 ≤ n ∧ n ≤ 122 ∨ 65 ≤ n ∧ n ≤ 90 ∨ n = 95)
def digB (n : Int) : Bool := decide (48 ≤ n ∧ n ≤ 57)
def chB (c : UInt8) : Bool := letB c.toNat || digB c.toNat
def nameB (l : List UInt8) : Bool := decide (1 ≤ l.length ∧ l.length ≤ 40) && (letB (l.getD 0 0).toNat && l.all chB)
theorem let_dig {n : Int} (h : letB n = true) : digB n = false := by
  unfold letB at h; unfold digB; simp at h; simp; omega
theorem at_listN (s : ByteArray) (k : Nat) (h : k < s.size) : s.data.toList[k]'(by simpa using h) = s[k] := rfl
theorem name_size {s : ByteArray} (h : s.size < 1 ∨ 40 < s.size) : nameB s.data.toList = false := by
  unfold nameB
  have : decide (1 ≤ s.data.toList.length ∧ s.data.toList.length ≤ 40) = false := by
    have e : s.data.toList.length = s.size := rfl
    rw [e]; simp; omega
  rw [this]; rfl
theorem name_first {s : ByteArray} (h : 0 < s.size) (hl : letB (s[0].toNat : Int) = false) : nameB s.data.toList = false := by
  unfold nameB
  have e : s.data.toList.getD 0 0 = s[0] := by
    rw [List.getD_eq_getElem?_getD, List.getElem?_eq_getElem (by simpa using h)]; rfl
  rw [e, hl]; simp
theorem name_char {s : ByteArray} (k : Nat) (h : k < s.size) (h1 : letB (s[k].toNat : Int) = false) (h2 : digB (s[k].toNat : Int) = false) : nameB s.data.toList = false := by
  unfold nameB
  have : s.data.toList.all chB = false := by
    rw [List.all_eq_false]
    exact ⟨s[k], by rw [← at_listN s k h]; exact List.getElem_mem _, by unfold chB; rw [h1, h2]; simp⟩
  rw [this]; simp
theorem name_all {s : ByteArray} (h1 : 1 ≤ s.size) (h2 : s.size ≤ 40) (hl : letB (s[0].toNat : Int) = true) (ha : ∀ j (hj : j < s.size), 1 ≤ j → chB s[j] = true) : nameB s.data.toList = true := by
  unfold nameB
  have e : s.data.toList.getD 0 0 = s[0] := by
    rw [List.getD_eq_getElem?_getD, List.getElem?_eq_getElem (show 0 < s.data.toList.length by have e : s.data.toList.length = s.size := rfl; omega)]; rfl
  have el : s.data.toList.length = s.size := rfl
  have ea : s.data.toList.all chB = true := by
    rw [List.all_eq_true]
    intro c hc
    obtain ⟨j, hj, rfl⟩ := List.mem_iff_getElem.1 hc
    have hj' : j < s.size := by simpa using hj
    rw [at_listN s j hj']
    by_cases j0 : j = 0
    · subst j0; unfold chB; rw [hl]; rfl
    · exact ha j hj' (by omega)
  rw [e, hl, ea, el]; simp; omega
theorem ret_boolN {a b : Bool} (h : a = b) : Ending.returned (.bool a) = .returned (.bool b) := by rw [h]
set_option maxHeartbeats 400000 in
theorem digit_impl (n : Int) (w : World) : Calls Try.prog 68 #[.int .u8 n] w fun e w' => e = .returned (.bool (digB n)) ∧ w' = w := by
  go_enter Try.func68, Try.ntmps68
  go_wp2
  all_goals
    go_ret
    refine ⟨ret_boolN ?_, rfl⟩
    rw [Bool.eq_iff_iff]; simp [digB]; try omega
set_option maxHeartbeats 400000 in
theorem letter_impl (n : Int) (w : World) : Calls Try.prog 69 #[.int .u8 n] w fun e w' => e = .returned (.bool (letB n)) ∧ w' = w := by
  go_enter Try.func69, Try.ntmps69
  go_wp2
  all_goals
    go_ret
    refine ⟨ret_boolN ?_, rfl⟩
    rw [Bool.eq_iff_iff]; simp [letB]; try omega
set_option maxHeartbeats 400000 in
theorem letter_spec (n : Int) (w : World) : Calls Try.prog 91 #[.int .u8 n] w fun e w' => e = .returned (.bool (letB n)) ∧ w' = w := by
  go_enter Try.func91, Try.ntmps91
  go_wp2
  all_goals
    go_ret
    refine ⟨ret_boolN ?_, rfl⟩
    rw [Bool.eq_iff_iff]; simp [letB]; try omega
set_option maxHeartbeats 400000 in
theorem digit_spec (n : Int) (w : World) : Calls Try.prog 92 #[.int .u8 n] w fun e w' => e = .returned (.bool (digB n)) ∧ w' = w := by
  go_enter Try.func92, Try.ntmps92
  go_wp2
  all_goals
    go_ret
    refine ⟨ret_boolN ?_, rfl⟩
    rw [Bool.eq_iff_iff]; simp [digB]; try omega
set_option maxHeartbeats 800000 in
theorem name_impl (s : ByteArray) (w : World) (hs : s.size ≤ maxLen) :
    Calls Try.prog 45 #[.string s] w fun e w' => e = .returned (.bool (nameB s.data.toList)) ∧ w' = w := by
  unfold maxLen at hs
  by_cases hz : s.size < 1 ∨ 40 < s.size
  · have HN : Hid (nameB s.data.toList = false) := name_size hz
    rcases hz with hz | hz
    · go_enter Try.func45, Try.ntmps45
      go_wp2_with fail
      go_ret
      exact ⟨ret_boolN HN.out.symm, rfl⟩
    · go_enter Try.func45, Try.ntmps45
      go_wp2_with fail
      go_ret
      exact ⟨ret_boolN HN.out.symm, rfl⟩
  · have h1 : 1 ≤ s.size := by omega
    have h2 : s.size ≤ 40 := by omega
    have b1 : decide ((s.size : Int) < 1) = false := by simp; omega
    have b2 : decide (40 < (s.size : Int)) = false := by simp; omega
    clear hz
    cases hd : digB (s[0].toNat : Int)
    · go_enter Try.func45, Try.ntmps45
      go_wp2_with fail
      refine (digit_impl _ _).mono ?_
      rintro e w' ⟨rfl, rfl⟩
      go_wp2_with fail
      go_loop [19] (fun t => ∃ k : Nat, k ≤ s.size ∧ t = .int .i64 k ∧ Hid (∀ j (hj : j < s.size), j < k → chB s[j] = true)) (fun t => s.size - (intOf t).toNat)
      case atStart => exact ⟨0, Nat.zero_le _, rfl, fun j hj h => absurd h (by omega)⟩
      case round =>
        obtain ⟨k, hk, rfl, hall⟩ := hrel
        by_cases hlt : k < s.size
        · cases hL : letB (s[k].toNat : Int)
          · cases hD : digB (s[k].toNat : Int)
            · have HN : Hid (nameB s.data.toList = false) := name_char k hlt hL hD
              go_wp2_with (first | (go_at_call 69; refine (letter_impl _ _).mono ?_; rintro e w' ⟨rfl, rfl⟩) | (go_at_call 68; refine (digit_impl _ _).mono ?_; rintro e w' ⟨rfl, rfl⟩))
              go_ret
              exact ⟨ret_boolN HN.out.symm, rfl⟩
            · have HC : Hid (chB s[k] = true) := by show chB s[k] = true; unfold chB; rw [hL, hD]; rfl
              go_wp2_with (first | (go_at_call 69; refine (letter_impl _ _).mono ?_; rintro e w' ⟨rfl, rfl⟩) | (go_at_call 68; refine (digit_impl _ _).mono ?_; rintro e w' ⟨rfl, rfl⟩))
              go_round
              case rel => exact ⟨k + 1, by omega, by go_num, fun j hj h => by rcases Nat.lt_succ_iff_lt_or_eq.1 h with h | rfl; exact hall.out j hj h; exact HC.out⟩
              case measure => simp [intOf]; omega
          · have HC : Hid (chB s[k] = true) := by show chB s[k] = true; unfold chB; rw [hL]; rfl
            go_wp2_with (first | (go_at_call 69; refine (letter_impl _ _).mono ?_; rintro e w' ⟨rfl, rfl⟩) | (go_at_call 68; refine (digit_impl _ _).mono ?_; rintro e w' ⟨rfl, rfl⟩))
            go_round
            case rel => exact ⟨k + 1, by omega, by go_num, fun j hj h => by rcases Nat.lt_succ_iff_lt_or_eq.1 h with h | rfl; exact hall.out j hj h; exact HC.out⟩
            case measure => simp [intOf]; omega
        · have HN : Hid (nameB s.data.toList = true) := by
            have ha : ∀ j (hj : j < s.size), chB s[j] = true := fun j hj => hall.out j hj (by omega)
            have h0 := ha 0 h1
            refine name_all h1 h2 ?_ (fun j hj _ => ha j hj)
            unfold chB at h0; rw [hd] at h0; simpa using h0
          go_wp2_with fail
          go_ret
          exact ⟨ret_boolN HN.out.symm, rfl⟩
    · have HN : Hid (nameB s.data.toList = false) := by
        refine name_first h1 ?_
        cases hl : letB (s[0].toNat : Int)
        · rfl
        · have := let_dig hl; rw [this] at hd; cases hd
      go_enter Try.func45, Try.ntmps45
      go_wp2_with fail
      refine (digit_impl _ _).mono ?_
      rintro e w' ⟨rfl, rfl⟩
      go_wp2_with fail
      go_ret
      exact ⟨ret_boolN HN.out.symm, rfl⟩
set_option maxHeartbeats 800000 in
theorem name_spec (s : ByteArray) (w : World) (hs : s.size ≤ maxLen) :
    Calls Try.prog 75 #[.string s] w fun e w' => e = .returned (.bool (nameB s.data.toList)) ∧ w' = w := by
  unfold maxLen at hs
  by_cases hz : s.size < 1 ∨ 40 < s.size
  · have HN : Hid (nameB s.data.toList = false) := name_size hz
    rcases hz with hz | hz
    · go_enter Try.func75, Try.ntmps75
      go_wp2_with fail
      go_ret
      exact ⟨ret_boolN HN.out.symm, rfl⟩
    · go_enter Try.func75, Try.ntmps75
      go_wp2_with fail
      go_ret
      exact ⟨ret_boolN HN.out.symm, rfl⟩
  · have h1 : 1 ≤ s.size := by omega
    have h2 : s.size ≤ 40 := by omega
    have b1 : decide ((s.size : Int) < 1) = false := by simp; omega
    have b2 : decide (40 < (s.size : Int)) = false := by simp; omega
    clear hz
    cases hd : letB (s[0].toNat : Int)
    · have HN : Hid (nameB s.data.toList = false) := name_first h1 hd
      go_enter Try.func75, Try.ntmps75
      go_wp2_with fail
      refine (letter_spec _ _).mono ?_
      rintro e w' ⟨rfl, rfl⟩
      go_wp2_with fail
      go_ret
      exact ⟨ret_boolN HN.out.symm, rfl⟩
    · go_enter Try.func75, Try.ntmps75
      go_wp2_with fail
      refine (letter_spec _ _).mono ?_
      rintro e w' ⟨rfl, rfl⟩
      go_wp2_with fail
      go_loop [3] (fun t => ∃ k : Nat, 1 ≤ k ∧ k ≤ s.size ∧ t = .int .i64 k ∧ Hid (∀ j (hj : j < s.size), 1 ≤ j → j < k → chB s[j] = true)) (fun t => s.size - (intOf t).toNat)
      case atStart => exact ⟨1, by omega, h1, rfl, fun j hj h h' => absurd h (by omega)⟩
      case round =>
        obtain ⟨k, hk1, hk, rfl, hall⟩ := hrel
        by_cases hlt : k < s.size
        · cases hL : letB (s[k].toNat : Int)
          · cases hD : digB (s[k].toNat : Int)
            · have HN : Hid (nameB s.data.toList = false) := name_char k hlt hL hD
              go_wp2_with (first | (go_at_call 91; refine (letter_spec _ _).mono ?_; rintro e w' ⟨rfl, rfl⟩) | (go_at_call 92; refine (digit_spec _ _).mono ?_; rintro e w' ⟨rfl, rfl⟩))
              go_ret
              exact ⟨ret_boolN HN.out.symm, rfl⟩
            · have HC : Hid (chB s[k] = true) := by show chB s[k] = true; unfold chB; rw [hL, hD]; rfl
              go_wp2_with (first | (go_at_call 91; refine (letter_spec _ _).mono ?_; rintro e w' ⟨rfl, rfl⟩) | (go_at_call 92; refine (digit_spec _ _).mono ?_; rintro e w' ⟨rfl, rfl⟩))
              go_round
              case rel => exact ⟨k + 1, by omega, by omega, by go_num, fun j hj h' h => by rcases Nat.lt_succ_iff_lt_or_eq.1 h with h | rfl; exact hall.out j hj h' h; exact HC.out⟩
              case measure => simp [intOf]; omega
          · have HC : Hid (chB s[k] = true) := by show chB s[k] = true; unfold chB; rw [hL]; rfl
            go_wp2_with (first | (go_at_call 91; refine (letter_spec _ _).mono ?_; rintro e w' ⟨rfl, rfl⟩) | (go_at_call 92; refine (digit_spec _ _).mono ?_; rintro e w' ⟨rfl, rfl⟩))
            go_round
            case rel => exact ⟨k + 1, by omega, by omega, by go_num, fun j hj h' h => by rcases Nat.lt_succ_iff_lt_or_eq.1 h with h | rfl; exact hall.out j hj h' h; exact HC.out⟩
            case measure => simp [intOf]; omega
        · have HN : Hid (nameB s.data.toList = true) := name_all h1 h2 hd (fun j hj h => hall.out j hj h (by omega))
          go_wp2_with fail
          go_ret
          exact ⟨ret_boolN HN.out.symm, rfl⟩
theorem name_face (s : ByteArray) (w : World) (hs : s.size ≤ maxLen) :
    Calls Try.prog 53 #[.string s] w fun e w' => e = .returned (.bool (nameB s.data.toList)) ∧ w' = w := by
  go_enter Try.func53, Try.ntmps53
  go_wp2_with fail
  refine (name_spec s _ hs).mono ?_
  rintro e w' ⟨rfl, rfl⟩
  go_wp2_with fail
  go_ret
  exact ⟨rfl, rfl⟩
theorem nameI (t : List UInt8) (w : World) (hs : t.length ≤ maxLen) : Calls Try.prog 45 #[.string ⟨t.toArray⟩] w fun e w' => e = .returned (.bool (nameB t)) ∧ w' = w := by
  have := name_impl ⟨t.toArray⟩ w (by show t.toArray.size ≤ maxLen; simpa using hs)
  exact this
theorem nameS (t : List UInt8) (w : World) (hs : t.length ≤ maxLen) : Calls Try.prog 53 #[.string ⟨t.toArray⟩] w fun e w' => e = .returned (.bool (nameB t)) ∧ w' = w := by
  have := name_face ⟨t.toArray⟩ w (by show t.toArray.size ≤ maxLen; simpa using hs)
  exact this
end Go.Proofs.Ythpenliecgpedaa
