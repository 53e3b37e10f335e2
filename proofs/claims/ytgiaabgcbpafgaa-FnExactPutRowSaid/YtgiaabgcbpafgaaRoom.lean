import Derived.Test.YtgiaabgcbpafgaaPart2
namespace Go.Proofs.Ytgiaabgcbpafgaa
open Go.RowKit
theorem ret_ii {a b c d : Int} (h : a = c) (h' : b = d) : Ending.returned (.tuple #[.int .i64 a, .int .i64 b]) = .returned (.tuple #[.int .i64 c, .int .i64 d]) := by rw [h, h']
theorem left_len {d : Nat} {j : J} {r : Int} (h : r ≤ (j.items.length : Int)) : left r (cnt (d + 1) j) = -1 := by
  cases e : cnt (d + 1) j with
  | none => rfl
  | some n => have := cnt_len e; unfold left; simp only; rw [if_neg (by omega)]
theorem left_le {r : Int} (c : Option Nat) (h0 : 0 ≤ left r c) : left r c ≤ r := by
  cases c with
  | none => simp [left] at h0
  | some n => unfold left at h0 ⊢; simp only at h0 ⊢; split at h0
              · rename_i h; rw [if_pos h]; omega
              · omega

/-- whether a value is right -/
def okB (j : J) : Bool := decide (0 ≤ left 400 (cnt 12 j))

/-- how many values a right one has -/
def nodesI (j : J) : Int := if okB j then 400 - left 400 (cnt 12 j) else 0
def codeI (j : J) : Int := if okB j then 0 else 1
theorem nodes_yes {j : J} {q : Int} (h : okB j = decide (0 ≤ q)) (hl : left 400 (cnt 12 j) = q) (hq : 0 ≤ q) : nodesI j = 400 - q ∧ codeI j = 0 := by
  have : okB j = true := by rw [h]; exact decide_eq_true hq
  simp [nodesI, codeI, this, hl]
theorem nodes_no {j : J} {q : Int} (h : okB j = decide (0 ≤ q)) (hq : q < 0) : nodesI j = 0 ∧ codeI j = 1 := by
  have : okB j = false := by rw [h]; exact decide_eq_false (by omega)
  simp [nodesI, codeI, this]
theorem left_400 (c : Option Nat) : left 400 c ≤ 400 ∧ -1 ≤ left 400 c := by
  cases c with
  | none => simp [left]
  | some n => simp only [left]; split <;> omega

end Go.Proofs.Ytgiaabgcbpafgaa
