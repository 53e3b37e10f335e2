import Derived.WalkKit
namespace Go.Proofs.YtfjaoiigdjpcfaaDoor
/-- the words of the functions, byte by byte -/
def wordsL : List (List UInt8) := [[], [43, 61], [45, 61], [42, 61], [47, 61], [37, 61], [105, 110, 115, 101, 114, 116], [100, 101, 108, 101, 116, 101]]
def wd (n : Int) : List UInt8 := if n < 0 then [] else wordsL.getD n.toNat []
theorem wd_out {n : Int} (h : n < 0 ∨ 8 ≤ n) : wd n = [] := by
  unfold wd
  by_cases h0 : n < 0
  · rw [if_pos h0]
  · rw [if_neg h0, List.getD_eq_getElem?_getD, List.getElem?_eq_none (by show 8 ≤ n.toNat; omega)]; rfl
theorem wd_in (n : Int) (h0 : 0 ≤ n) (h : n < 8) : n = 0 ∨ n = 1 ∨ n = 2 ∨ n = 3 ∨ n = 4 ∨ n = 5 ∨ n = 6 ∨ n = 7 := by omega
theorem wd_short (j : Nat) (h : j < 8) : (wd (j : Int)).length ≤ 8 := by
  rcases wd_in (j : Int) (by omega) (by omega) with h | h | h | h | h | h | h | h <;> rw [h] <;> decide
theorem wd_some (j : Nat) (h : j < 8) (h0 : 1 ≤ j) : wd (j : Int) ≠ [] := by
  rcases wd_in (j : Int) (by omega) (by omega) with h | h | h | h | h | h | h | h <;> first | omega | (rw [h]; decide)
/-- the function of a word, 0 if it is none -/
def codeL (s : List UInt8) : Int := match (List.range 8).find? (fun j : Nat => wd (j : Int) == s) with
  | some k => k
  | none => 0
theorem code_at {s : List UInt8} {k : Nat} (hk : k < 8) (h : (wd (k : Int) == s) = true) (hb : ∀ j : Nat, j < k → (wd (j : Int) == s) = false) : codeL s = k := by
  have e : (List.range 8).find? (fun j : Nat => wd (j : Int) == s) = some k :=
    List.find?_range_eq_some.2 ⟨h, List.mem_range.2 hk, fun j hj => by rw [hb j hj]; rfl⟩
  unfold codeL; rw [e]
theorem code_none {s : List UInt8} (hb : ∀ j : Nat, j < 8 → (wd (j : Int) == s) = false) : codeL s = 0 := by
  have e : (List.range 8).find? (fun j : Nat => wd (j : Int) == s) = none :=
    List.find?_range_eq_none.2 fun j hj => by rw [hb j hj]; rfl
  unfold codeL; rw [e]
theorem code_at1 {s : List UInt8} {k : Nat} (hk : k < 8) (h1 : 1 ≤ k) (h : (wd (k : Int) == s) = true) (hb : ∀ j : Nat, 1 ≤ j → j < k → (wd (j : Int) == s) = false) : codeL s = k :=
  code_at hk h fun j hj => by
    by_cases h0 : 1 ≤ j
    · exact hb j h0 hj
    · obtain rfl : j = 0 := by omega
      have e : wd (k : Int) = s := by simpa using h
      have n := wd_some k hk h1
      rw [e] at n
      cases s with
      | nil => exact absurd rfl n
      | cons a r => rfl
theorem code_none1 {s : List UInt8} (hb : ∀ j : Nat, 1 ≤ j → j < 8 → (wd (j : Int) == s) = false) : codeL s = 0 := by
  by_cases h : wd ((0 : Nat) : Int) == s
  · exact code_at (k := 0) (by decide) h fun j hj => absurd hj (Nat.not_lt_zero j)
  · refine code_none fun j hj => ?_
    by_cases h0 : 1 ≤ j
    · exact hb j h0 hj
    · obtain rfl : j = 0 := by omega
      simpa using h
theorem code_long {s : List UInt8} (h : 8 < s.length) : codeL s = 0 := code_none fun j hj => by
  have := wd_short j hj
  cases e : wd (j : Int) == s
  · rfl
  · have e' : wd (j : Int) = s := by simpa using e
    rw [e'] at this; omega
end Go.Proofs.YtfjaoiigdjpcfaaDoor
