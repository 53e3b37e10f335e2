import Derived.Test.YtgiaabgcbpafgaaEq
namespace Go.Proofs.Ytgiaabgcbpafgaa
open Go.RowKit

theorem at_l (s : ByteArray) (k : Nat) (h : k < s.size) : s.data.toList[k]'(by simpa using h) = s[k] := rfl
theorem text_long {s : ByteArray} (h : 200 < s.size) : textB s.data.toList = false := by
  unfold textB
  have e : s.data.toList.length = s.size := rfl
  rw [e, decide_eq_false (by omega)]; rfl
theorem text_char {s : ByteArray} (k : Nat) (h : k < s.size) (hc : charB s[k] = false) : textB s.data.toList = false := by
  unfold textB
  have : s.data.toList.all charB = false := by
    rw [List.all_eq_false]; exact ⟨s[k], by rw [← at_l s k h]; exact List.getElem_mem _, by simp [hc]⟩
  rw [this]; simp
theorem text_all {s : ByteArray} (h : s.size ≤ 200) (ha : ∀ j (hj : j < s.size), charB s[j] = true) : textB s.data.toList = true := by
  unfold textB
  have e : s.data.toList.length = s.size := rfl
  have : s.data.toList.all charB = true := by
    rw [List.all_eq_true]; intro c hc
    obtain ⟨j, hj, rfl⟩ := List.mem_iff_getElem.1 hc
    rw [at_l s j (by simpa using hj)]; exact ha j _
  rw [this, e, decide_eq_true (by omega)]; rfl
theorem char_true {c : UInt8} (h : charB c = true) : 32 ≤ (c.toNat : Int) ∧ (c.toNat : Int) ≤ 126 := by unfold charB at h; exact of_decide_eq_true h
theorem char_false {c : UInt8} (h : charB c = false) : (c.toNat : Int) < 32 ∨ 126 < (c.toNat : Int) := by unfold charB at h; have := of_decide_eq_false h; omega

theorem key_text {keys : List (List UInt8)} {k : Nat} (hk : k < keys.length) (h : textB keys[k] = false) : keyB keys k = false := by
  unfold keyB; rw [List.getD_eq_getElem?_getD, List.getElem?_eq_getElem hk]; simp [h]
theorem key_less {keys : List (List UInt8)} {k : Nat} (hk : k + 1 < keys.length) (h : Op.bytesLess keys[k] keys[k + 1] = false) : keyB keys (k + 1) = false := by
  unfold keyB
  rw [List.getD_eq_getElem?_getD, List.getElem?_eq_getElem hk, Nat.add_sub_cancel, List.getD_eq_getElem?_getD, List.getElem?_eq_getElem (by omega)]; simp [h]
theorem key_first {keys : List (List UInt8)} (hk : 0 < keys.length) (h : textB keys[0] = true) : keyB keys 0 = true := by
  unfold keyB; rw [List.getD_eq_getElem?_getD, List.getElem?_eq_getElem hk]; simp [h]
theorem key_next {keys : List (List UInt8)} {k : Nat} (hk : k + 1 < keys.length) (ht : textB keys[k + 1] = true) (h : Op.bytesLess keys[k] keys[k + 1] = true) : keyB keys (k + 1) = true := by
  unfold keyB
  rw [List.getD_eq_getElem?_getD, List.getElem?_eq_getElem hk, Nat.add_sub_cancel, List.getD_eq_getElem?_getD, List.getElem?_eq_getElem (by omega)]; simp [h, ht]

end Go.Proofs.Ytgiaabgcbpafgaa
