import Derived.Test.YtoalhminembpkaaUay
namespace Go.Proofs.Ytoalhminembpkaa
open Go.RowKit
set_option linter.unusedSimpArgs false
noncomputable def obC (l : List LkV) (n : Int) : Int := askC l n xN
theorem ask_zero {l : List LkV} {n : Int} {s : List UInt8} (h : askC l n s = 0) : LksP l ∧ sesB n = true ∧ nameB s = true := by
  unfold askC askK at h
  by_cases h1 : (decide (4096 < l.length) || decide (65536 < s.length)) = true
  · rw [if_pos h1] at h; omega
  rw [if_neg h1] at h
  by_cases h2 : lksB l = true
  · rw [if_pos h2] at h
    by_cases h3 : (sesB n && nameB s) = true
    · rw [Bool.and_eq_true] at h3; exact ⟨lks_of h2, h3⟩
    · rw [if_neg h3] at h; omega
  · rw [if_neg h2] at h; omega
theorem ask_long {l : List LkV} {n : Int} {s : List UInt8} (h : 4096 < l.length) : askC l n s = 2 := by unfold askC askK; rw [decide_eq_true h]; rfl
theorem ask_none {l : List LkV} {n : Int} (s : List UInt8) : askK (decide (4096 < l.length) || longM 0 s) (lksB l) (sesB n) (nameM 0 s) = obC l n := by
  unfold obC askC
  rw [name_x]
  rfl
theorem nmB_len {t : List UInt8} (h : nameB t = true) : t.length ≤ 40 := by
  by_cases h1 : 40 < t.length
  · have := name_size (s := ⟨t.toArray⟩) (.inr (by show 40 < t.toArray.size; simpa using h1))
    have e : (⟨t.toArray⟩ : ByteArray).data.toList = t := by simp
    rw [e, h] at this; cases this
  · omega
theorem sumN_cst (c : Nat) : ∀ n : Nat, sumN n (fun _ => c) = n * c
  | 0 => by simp [sumN]
  | n + 1 => by rw [sumN_succ, sumN_cst c n, Nat.succ_mul]
end Go.Proofs.Ytoalhminembpkaa
