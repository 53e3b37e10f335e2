import Derived.Test.YthakmdkaciopnaaKTo
namespace Go.Proofs.Ythakmdkaciopnaa
open Go.RowKit
set_option linter.unusedSimpArgs false
/-- when an atom is right -/
def atOK (x : At) : Bool :=
  if x.k = 1 then inB (-1000000000) x.n 1000000000 && x.t.isEmpty
  else if x.k = 2 then (x.n == 0) && textB x.t
  else if x.k = 3 then inB 0 x.n 1 && x.t.isEmpty
  else if x.k = 4 then inB 1 x.n 1000000 && x.t.isEmpty
  else false
theorem atOK1 {x : At} (h : x.k = 1) : atOK x = (inB (-1000000000) x.n 1000000000 && x.t.isEmpty) := by unfold atOK; rw [if_pos h]
theorem atOK2 {x : At} (h : x.k = 2) : atOK x = ((x.n == 0) && textB x.t) := by unfold atOK; rw [if_neg (by omega), if_pos h]
theorem atOK3 {x : At} (h : x.k = 3) : atOK x = (inB 0 x.n 1 && x.t.isEmpty) := by unfold atOK; rw [if_neg (by omega), if_neg (by omega), if_pos h]
theorem atOK4 {x : At} (h : x.k = 4) : atOK x = (inB 1 x.n 1000000 && x.t.isEmpty) := by unfold atOK; rw [if_neg (by omega), if_neg (by omega), if_neg (by omega), if_pos h]
theorem atOKN {x : At} (h : x.k < 1 ∨ 4 < x.k) : atOK x = false := by unfold atOK; rw [if_neg (by omega), if_neg (by omega), if_neg (by omega), if_neg (by omega)]
theorem end_b {a x y : Bool} (HP : Hid (a = x)) (h : y = x) : y = a := by rw [HP.out]; exact h
/-- text that is empty: as a walk asks it -/
theorem atOK_text {x : At} (h : atOK x = true) : x.t.length ≤ 200 := by
  unfold atOK at h
  split at h
  · simp at h; simp [h.2]
  split at h
  · simp [textB] at h; exact h.2.1
  split at h
  · simp at h; simp [h.2]
  split at h
  · simp at h; simp [h.2]
  · cases h
/-- the order of atoms: by kind, by number, by text -/
def cmpA (a b : At) : Int :=
  if a.k ≠ b.k then (if a.k < b.k then -1 else 1)
  else if a.n ≠ b.n then (if a.n < b.n then -1 else 1)
  else if a.t ≠ b.t then (if Op.bytesLess a.t b.t then -1 else 1)
  else 0
theorem cmp_k {a b : At} (h : a.k ≠ b.k) : cmpA a b = 1 - 2 * (if decide (a.k < b.k) then 1 else 0) := by
  unfold cmpA
  rw [if_pos h]
  by_cases hl : a.k < b.k <;> simp [hl]
theorem cmp_n {a b : At} (h : a.k = b.k) (h2 : a.n ≠ b.n) : cmpA a b = 1 - 2 * (if decide (a.n < b.n) then 1 else 0) := by
  unfold cmpA
  rw [if_neg (by simp [h]), if_pos h2]
  by_cases hl : a.n < b.n <;> simp [hl]
theorem cmp_t {a b : At} (h : a.k = b.k) (h2 : a.n = b.n) (h3 : a.t ≠ b.t) : cmpA a b = 1 - 2 * (if Op.bytesLess a.t b.t then 1 else 0) := by
  unfold cmpA
  rw [if_neg (by simp [h]), if_neg (by simp [h2]), if_pos h3]
  by_cases hl : Op.bytesLess a.t b.t = true <;> simp [hl]
theorem cmp_0 {a b : At} (h : a.k = b.k) (h2 : a.n = b.n) (h3 : a.t = b.t) : cmpA a b = 0 := by
  unfold cmpA
  rw [if_neg (by simp [h]), if_neg (by simp [h2]), if_neg (by simp [h3])]
theorem below2 (w : World) (o o' : Obj) : Below w.heap.size w ((w.alloc o).alloc o') := ((Below.refl _ _).alloc (Nat.le_refl _) _).alloc (by simp) _
end Go.Proofs.Ythakmdkaciopnaa
