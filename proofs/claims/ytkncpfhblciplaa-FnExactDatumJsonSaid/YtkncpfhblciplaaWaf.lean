import Derived.Test.YtkncpfhblciplaaWae
namespace Go.Proofs.Ytkncpfhblciplaa
open Go.RowKit
theorem at_l (s : ByteArray) (k : Nat) (h : k < s.size) : s.data.toList[k]'(by simpa using h) = s[k] := rfl
theorem text_long {s : ByteArray} (h : 200 < s.size) : textB s.data.toList = false := by
  unfold textB
  have e : s.data.toList.length = s.size := rfl
  rw [e, decide_eq_false (by omega)]; rfl
theorem text_char {s : ByteArray} (k : Nat) (h : k < s.size) (hc : charB s[k] = false) : textB s.data.toList = false := by
  unfold textB
  have : s.data.toList.all charB = false := by
    rw [List.all_eq_false]; exact ⟨s[k], by rw [← at_l s k h]; exact List.getElem_mem _, by simp [hc]⟩
  rw [this]; simp
theorem text_all {s : ByteArray} (h : s.size ≤ 200) (ha : ∀ j (hj : j < s.size), charB s[j] = true) : textB s.data.toList = true := by
  unfold textB
  have e : s.data.toList.length = s.size := rfl
  have : s.data.toList.all charB = true := by
    rw [List.all_eq_true]; intro c hc
    obtain ⟨j, hj, rfl⟩ := List.mem_iff_getElem.1 hc
    rw [at_l s j (by simpa using hj)]; exact ha j _
  rw [this, e, decide_eq_true (by omega)]; rfl
theorem char_true {c : UInt8} (h : charB c = true) : 32 ≤ (c.toNat : Int) ∧ (c.toNat : Int) ≤ 126 := by unfold charB at h; exact of_decide_eq_true h
theorem char_false {c : UInt8} (h : charB c = false) : (c.toNat : Int) < 32 ∨ 126 < (c.toNat : Int) := by unfold charB at h; have := of_decide_eq_false h; omega
set_option maxHeartbeats 800000 in
theorem textOKs (s : ByteArray) (w : World) (hs : s.size ≤ maxLen) : Calls Try.prog 78 #[.string s] w fun e w' => e = .returned (.bool (textB s.data.toList)) ∧ w' = w := by
  unfold maxLen at hs
  by_cases hz : 200 < s.size
  · have HN : Hid (textB s.data.toList = false) := text_long hz
    go_enter Try.func78, Try.ntmps78
    go_wp2_with fail
    go_ret
    exact ⟨ret_b HN.out.symm, rfl⟩
  · have b2 : decide (200 < (s.size : Int)) = false := by simp; omega
    go_enter Try.func78, Try.ntmps78
    go_wp2_with fail
    go_loop [9] (fun t => ∃ k : Nat, k ≤ s.size ∧ t = .int .i64 k ∧ Hid (∀ j (hj : j < s.size), j < k → charB s[j] = true)) (fun t => s.size - (intOf t).toNat)
    case atStart => exact ⟨0, Nat.zero_le _, rfl, fun j hj h => absurd h (by omega)⟩
    case round =>
      obtain ⟨k, hk, rfl, hall⟩ := hrel
      by_cases hlt : k < s.size
      · cases hc : charB s[k]
        · have HN : Hid (textB s.data.toList = false) := text_char k hlt hc
          rcases char_false hc with h1 | h1
          · clear hc
            go_wp2_with fail
            go_ret
            exact ⟨ret_b HN.out.symm, rfl⟩
          · have h2 : decide ((s[k].toNat : Int) < 32) = false := by simp; omega
            clear hc
            go_wp2_with fail
            go_ret
            exact ⟨ret_b HN.out.symm, rfl⟩
        · have HC : Hid (charB s[k] = true) := hc
          obtain ⟨h1, h2⟩ := char_true hc
          clear hc
          go_wp2_with fail
          go_round
          case rel => exact ⟨k + 1, by omega, by go_num, fun j hj h => by rcases Nat.lt_succ_iff_lt_or_eq.1 h with h | rfl; exact hall.out j hj h; exact HC.out⟩
          case measure => simp [intOf]; omega
      · have HN : Hid (textB s.data.toList = true) := text_all (by omega) (fun j hj => hall.out j hj (by omega))
        go_wp2_with fail
        go_ret
        exact ⟨ret_b HN.out.symm, rfl⟩
theorem textOK (t : List UInt8) (w : World) (hs : t.length ≤ maxLen) : Calls Try.prog 78 #[.string ⟨t.toArray⟩] w fun e w' => e = .returned (.bool (textB t)) ∧ w' = w :=
  textOKs ⟨t.toArray⟩ w (by show t.toArray.size ≤ maxLen; simpa using hs)
theorem key_text {keys : List (List UInt8)} {k : Nat} (hk : k < keys.length) (h : textB keys[k] = false) : keyB keys k = false := by
  unfold keyB; rw [List.getD_eq_getElem?_getD, List.getElem?_eq_getElem hk]; simp [h]
theorem key_less {keys : List (List UInt8)} {k : Nat} (hk : k + 1 < keys.length) (h : Op.bytesLess keys[k] keys[k + 1] = false) : keyB keys (k + 1) = false := by
  unfold keyB
  rw [List.getD_eq_getElem?_getD, List.getElem?_eq_getElem hk, Nat.add_sub_cancel, List.getD_eq_getElem?_getD, List.getElem?_eq_getElem (by omega)]; simp [h]
theorem key_first {keys : List (List UInt8)} (hk : 0 < keys.length) (h : textB keys[0] = true) : keyB keys 0 = true := by
  unfold keyB; rw [List.getD_eq_getElem?_getD, List.getElem?_eq_getElem hk]; simp [h]
theorem key_next {keys : List (List UInt8)} {k : Nat} (hk : k + 1 < keys.length) (ht : textB keys[k + 1] = true) (h : Op.bytesLess keys[k] keys[k + 1] = true) : keyB keys (k + 1) = true := by
  unfold keyB
  rw [List.getD_eq_getElem?_getD, List.getElem?_eq_getElem hk, Nat.add_sub_cancel, List.getD_eq_getElem?_getD, List.getElem?_eq_getElem (by omega)]; simp [h, ht]
set_option maxHeartbeats 1600000 in
theorem keysOK (keys : List (List UInt8)) (a : Option Addr) (c : Nat) (B : Nat → Prop) (w : World) (hl : keys.length ≤ maxLen) (hx : ∀ x ∈ keys, x.length ≤ maxLen) (hS : Strs w B a keys) :
    Calls Try.prog 125 #[.slice a keys.length c] w fun e w' => e = .returned (.bool (keysB keys)) ∧ Below w.heap.size w w' := by
  unfold maxLen at hl
  have HX : Hid (∀ x ∈ keys, x.length ≤ maxLen) := hx
  have HS : Hid (Strs w B a keys) := hS
  clear hx hS
  go_enter Try.func125, Try.ntmps125
  go_wp2_with fail
  go_loopw [6] (fun i wr => ∃ k : Nat, k ≤ keys.length ∧ i = .int .i64 k ∧ Below w.heap.size w wr ∧ Hid (keysTo keys k = true)) (fun i _ => keys.length - (intOf i).toNat)
  case atStart => exact ⟨0, Nat.zero_le _, rfl, Below.refl _ _, rfl⟩
  case round =>
    obtain ⟨k, hk, rfl, hw, HT⟩ := hrel
    by_cases hlt : k < keys.length
    · obtain ⟨b, off, rfl, hcs⟩ : ∃ b off, a = some ⟨b, off, none⟩ ∧ ∀ i (h : i < keys.length), wr.cell? ⟨b, off + i, none⟩ = some (.string ⟨keys[i].toArray⟩) := by
        rcases HS.out.later hw with h | ⟨b, off, ha, _, hc⟩
        · omega
        · exact ⟨b, off, ha, hc⟩
      have hc := hcs k hlt
      have HL : Hid (keys[k].length ≤ maxLen) := HX.out _ (List.getElem_mem hlt)
      have hki : (k : Int) < (keys.length : Int) := by omega
      cases ht : textB keys[k]
      · have HN : Hid (keysB keys = false) := keysTo_false hlt (key_text hlt ht)
        clear hcs
        generalize keys[k] = x at *
        go_wp2_with fail
        go_quiet ((go_at_call 78; exact Calls.quiet_of_same ((textOK _ _ HL.out).mono fun e w' h => h)))
        go_wp2_with fail
        go_ret
        exact ⟨ret_b HN.out.symm, below_drewN hw _⟩
      · by_cases h0 : k = 0
        · have HN : Hid (keysTo keys (k + 1) = true) := by
            show keysTo keys (k + 1) = true
            subst h0
            rw [keysTo_succ, HT.out, key_first hlt ht]; rfl
          have hg : decide (0 < k) = false := by simp; omega
          clear hcs h0
          generalize keys[k] = x at *
          go_wp2_with fail
          go_quiet ((go_at_call 78; exact Calls.quiet_of_same ((textOK _ _ HL.out).mono fun e w' h => h)))
          go_wp2_with fail
          go_roundw
          case rel => exact ⟨k + 1, by omega, by go_num, below_drewN hw _, HN.out⟩
          case measure => simp [intOf]; omega
        · have hk1 : (0 : Int) < (k : Int) := by omega
          obtain ⟨m, hm⟩ : ∃ m, k = m + 1 := ⟨k - 1, by omega⟩
          have HM : Hid (k = m + 1) := hm
          have hc' : wr.cell? ⟨b, off + m, none⟩ = some (.string ⟨(keys.getD m []).toArray⟩) := by
            rw [hcs m (by omega), List.getD_eq_getElem?_getD, List.getElem?_eq_getElem (by omega)]; rfl
          have hwr : IntKind.i64.wrap ((k : Int) - 1) = (m : Int) := by rw [IntKind.wrap_i64]; omega
          have hm' : (m : Int) < (keys.length : Int) := by omega
          have hg : decide (0 < k) = true := by simp; omega
          clear hm
          cases hb : Op.bytesLess (keys.getD m []) keys[k]
          · have HN : Hid (keysB keys = false) := by
              have hm := HM.out
              subst hm
              rw [List.getD_eq_getElem?_getD, List.getElem?_eq_getElem (by omega)] at hb
              exact keysTo_false hlt (key_less hlt hb)
            clear hcs h0
            generalize keys.getD m [] = y at *
            generalize keys[k] = x at *
            go_wp2_with fail
            go_quiet ((go_at_call 78; exact Calls.quiet_of_same ((textOK _ _ HL.out).mono fun e w' h => h)))
            go_wp2_with fail
            go_ret
            exact ⟨ret_b HN.out.symm, below_drewN hw _⟩
          · have HN : Hid (keysTo keys (k + 1) = true) := by
              have hm := HM.out
              subst hm
              rw [List.getD_eq_getElem?_getD, List.getElem?_eq_getElem (by omega)] at hb
              show keysTo keys (m + 1 + 1) = true
              rw [keysTo_succ, HT.out, key_next hlt ht hb]; rfl
            clear hcs h0
            generalize keys.getD m [] = y at *
            generalize keys[k] = x at *
            go_wp2_with fail
            go_quiet ((go_at_call 78; exact Calls.quiet_of_same ((textOK _ _ HL.out).mono fun e w' h => h)))
            go_wp2_with fail
            go_roundw
            case rel => exact ⟨k + 1, by omega, by go_num, below_drewN hw _, HN.out⟩
            case measure => simp [intOf]; omega
    · have HN : Hid (keysB keys = true) := by
        have h1 := HT.out
        have hk' : k = keys.length := by omega
        rw [hk'] at h1; exact h1
      go_wp2_with fail
      go_ret
      exact ⟨ret_b HN.out.symm, hw⟩
end Go.Proofs.Ytkncpfhblciplaa
