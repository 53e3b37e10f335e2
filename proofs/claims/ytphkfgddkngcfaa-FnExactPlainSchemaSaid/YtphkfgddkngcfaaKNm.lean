import Derived.Test.YtphkfgddkngcfaaProg
import Derived.WalkKit
import Derived.WalkSpells
import Derived.WalkLawsBesides
namespace Go.Proofs.Ytphkfgddkngcfaa
open Go.RowKit
/-- a byte that may begin a name -/
def letB (n : Int) : Bool := decide (97 ≤ n ∧ n ≤ 122 ∨ 65 ≤ n ∧ n ≤ 90 ∨ n = 95)
def digB (n : Int) : Bool := decide (48 ≤ n ∧ n ≤ 57)
def chB (c : UInt8) : Bool := letB c.toNat || digB c.toNat
def nameB (l : List UInt8) : Bool := decide (1 ≤ l.length ∧ l.length ≤ 40) && (letB (l.getD 0 0).toNat && l.all chB)

theorem let_true {n : Int} (h : 97 ≤ n ∧ n ≤ 122 ∨ 65 ≤ n ∧ n ≤ 90 ∨ n = 95) : letB n = true := by unfold letB; exact decide_eq_true h
theorem let_false {n : Int} (h : ¬ (97 ≤ n ∧ n ≤ 122 ∨ 65 ≤ n ∧ n ≤ 90 ∨ n = 95)) : letB n = false := by unfold letB; exact decide_eq_false h
theorem dig_true {n : Int} (h : 48 ≤ n ∧ n ≤ 57) : digB n = true := by unfold digB; exact decide_eq_true h
theorem dig_false {n : Int} (h : ¬ (48 ≤ n ∧ n ≤ 57)) : digB n = false := by unfold digB; exact decide_eq_false h
theorem let_dig {n : Int} (h : letB n = true) : digB n = false := by
  unfold letB at h; unfold digB; simp at h; simp; omega

theorem at_listN (s : ByteArray) (k : Nat) (h : k < s.size) : s.data.toList[k]'(by simpa using h) = s[k] := rfl

theorem name_size {s : ByteArray} (h : s.size < 1 ∨ 40 < s.size) : nameB s.data.toList = false := by
  unfold nameB
  have : decide (1 ≤ s.data.toList.length ∧ s.data.toList.length ≤ 40) = false := by
    have e : s.data.toList.length = s.size := rfl
    rw [e]; simp; omega
  rw [this]; rfl
theorem name_first {s : ByteArray} (h : 0 < s.size) (hl : letB (s[0].toNat : Int) = false) : nameB s.data.toList = false := by
  unfold nameB
  have e : s.data.toList.getD 0 0 = s[0] := by
    rw [List.getD_eq_getElem?_getD, List.getElem?_eq_getElem (by simpa using h)]; rfl
  rw [e, hl]; simp
theorem name_char {s : ByteArray} (k : Nat) (h : k < s.size) (h1 : letB (s[k].toNat : Int) = false) (h2 : digB (s[k].toNat : Int) = false) : nameB s.data.toList = false := by
  unfold nameB
  have : s.data.toList.all chB = false := by
    rw [List.all_eq_false]
    exact ⟨s[k], by rw [← at_listN s k h]; exact List.getElem_mem _, by unfold chB; rw [h1, h2]; simp⟩
  rw [this]; simp
theorem name_all {s : ByteArray} (h1 : 1 ≤ s.size) (h2 : s.size ≤ 40) (hl : letB (s[0].toNat : Int) = true) (ha : ∀ j (hj : j < s.size), 1 ≤ j → chB s[j] = true) : nameB s.data.toList = true := by
  unfold nameB
  have e : s.data.toList.getD 0 0 = s[0] := by
    rw [List.getD_eq_getElem?_getD, List.getElem?_eq_getElem (show 0 < s.data.toList.length by have e : s.data.toList.length = s.size := rfl; omega)]; rfl
  have el : s.data.toList.length = s.size := rfl
  have ea : s.data.toList.all chB = true := by
    rw [List.all_eq_true]
    intro c hc
    obtain ⟨j, hj, rfl⟩ := List.mem_iff_getElem.1 hc
    have hj' : j < s.size := by simpa using hj
    rw [at_listN s j hj']
    by_cases j0 : j = 0
    · subst j0; unfold chB; rw [hl]; rfl
    · exact ha j hj' (by omega)
  rw [e, hl, ea, el]; simp; omega
theorem ret_boolN {a b : Bool} (h : a = b) : Ending.returned (.bool a) = .returned (.bool b) := by rw [h]

end Go.Proofs.Ytphkfgddkngcfaa
