import Derived.Test.YtodgijhpokjjhaaDoorZau
namespace Go.Proofs.YtodgijhpokjjhaaDoor
theorem quo_len (t : List UInt8) : (quo t).length ≤ 2 + 2 * t.length := by
  have := esc_len t
  unfold quo; simp only [List.length_cons, List.length_append, List.length_nil]; omega
theorem joinF_len : ∀ (f : Bool) (l : List (List UInt8)), (joinF f l).length ≤ l.length + (l.map List.length).sum
  | _, [] => by simp [joinF]
  | f, s :: l => by
    have := joinF_len false l
    cases f <;> simp [joinF] <;> omega
theorem joinF_take_le : ∀ (f : Bool) (l : List (List UInt8)) (m : Nat), (joinF f (l.take m)).length ≤ (joinF f l).length
  | _, [], m => by simp [joinF]
  | f, s :: l, 0 => by simp [joinF]
  | f, s :: l, m + 1 => by
    have := joinF_take_le false l m
    simp [joinF]; omega
theorem zip_len : ∀ (ks ss : List (List UInt8)), ((List.zipWith (fun key s => quo key ++ 58 :: s) ks ss).map List.length).sum ≤ 3 * ks.length + 2 * (ks.map List.length).sum + (ss.map List.length).sum
  | [], ss => by simp
  | k :: ks, [] => by simp
  | k :: ks, s :: ss => by
    have h1 := zip_len ks ss
    have h2 := quo_len k
    simp at h1 ⊢; omega
theorem sum_len (l : List J) (h : ∀ x ∈ l, (pr x).length ≤ 16 + 20 * x.sz) : ((l.map pr).map List.length).sum ≤ 16 * l.length + 20 * (l.map J.sz).sum := by
  induction l with
  | nil => simp
  | cons x l ih =>
    have h1 := ih (fun y hy => h y (List.mem_cons_of_mem _ hy))
    have h2 := h x (List.mem_cons_self)
    simp at h1 ⊢; omega
theorem pieces_len (k : Int) (ks : List (List UInt8)) (ss : List (List UInt8)) : ((pieces k ks ss).map List.length).sum ≤ 3 * ks.length + 2 * (ks.map List.length).sum + (ss.map List.length).sum ∧ (pieces k ks ss).length ≤ ss.length := by
  unfold pieces
  split
  · exact ⟨zip_len ks ss, by simp; omega⟩
  · exact ⟨by omega, Nat.le_refl _⟩
theorem dig_len9 (n : Nat) (h : n ≤ 1000000000) : (dig n).length ≤ 12 := by
  have h1 : ∀ m n, n < 10 ^ (m + 1) → (dig n).length ≤ m + 1 := by
    intro m
    induction m with
    | zero => intro n hn; rw [dig_small (by omega)]; simp
    | succ m ih =>
      intro n hn
      by_cases h : n < 10
      · rw [dig_small h]; simp
      · have := ih (n / 10) (by rw [Nat.pow_succ] at hn; omega)
        rw [dig_big h, List.length_append]; simp; omega
  have := h1 11 n (by omega)
  omega
theorem pr_len (j : J) : Good j → (pr j).length ≤ 16 + 20 * j.sz := by
  induction j using J.induct with
  | h j ih =>
    intro g
    have hp := g.part
    have hz := J.sz_eq j
    have hk := g.kind
    rw [pr_eq]
    rcases (by omega : j.k = 0 ∨ j.k = 1 ∨ j.k = 2 ∨ j.k = 3 ∨ 4 ≤ j.k) with k | k | k | k | k
    · rw [if_pos k]; simp; omega
    · rw [if_neg (by omega), if_pos k]; split <;> simp <;> omega
    · rw [if_neg (by omega), if_neg (by omega), if_pos k]
      rw [part2 k] at hp
      simp [inB] at hp
      unfold num
      have := dig_len9 j.n.natAbs (by omega)
      split <;> simp <;> omega
    · rw [if_neg (by omega), if_neg (by omega), if_neg (by omega), if_pos k]
      have := quo_len j.t
      omega
    · rw [if_neg (by omega), if_neg (by omega), if_neg (by omega), if_neg (by omega)]
      have h1 := joinF_len true (pieces j.k j.keys (j.items.map pr))
      have h2 := pieces_len j.k j.keys (j.items.map pr)
      have h3 := sum_len j.items (fun x hx => ih x hx (g.item x hx))
      unfold szK at hz
      simp only [List.length_cons, List.length_append, List.length_nil, List.length_map] at h1 h2 h3 ⊢
      omega
def outM (j : J) (m : Nat) : List UInt8 := (if j.k = 5 then 123 else 91) :: joinF true ((pieces j.k j.keys (j.items.map pr)).take m)
theorem piece_at {j : J} (hl : j.k = 5 → j.keys.length = j.items.length) (m : Nat) (hm : m < j.items.length) :
    (pieces j.k j.keys (j.items.map pr))[m]? = some ((if j.k = 5 then quo (j.keys.getD m []) ++ [58] else []) ++ pr j.items[m]) := by
  unfold pieces
  by_cases h5 : j.k = 5
  · have := hl h5
    rw [if_pos h5, if_pos h5]
    simp [List.getElem?_zipWith, List.getElem?_eq_getElem hm, List.getElem?_eq_getElem (show m < j.keys.length by omega)]
  · rw [if_neg h5, if_neg h5]
    simp [List.getElem?_eq_getElem hm]
theorem outM_succ {j : J} (hl : j.k = 5 → j.keys.length = j.items.length) (m : Nat) (hm : m < j.items.length) :
    outM j (m + 1) = outM j m ++ ((if m = 0 then [] else [44]) ++ ((if j.k = 5 then quo (j.keys.getD m []) ++ [58] else []) ++ pr j.items[m])) := by
  have hp := piece_at hl m hm
  obtain ⟨hlt, he⟩ := List.getElem?_eq_some_iff.1 hp
  unfold outM
  rw [List.take_succ_eq_append_getElem hlt, joinF_snoc, he]
  by_cases h0 : m = 0
  · subst h0; simp
  · have : ((pieces j.k j.keys (j.items.map pr)).take m).isEmpty = false := by
      cases e : (pieces j.k j.keys (j.items.map pr)).take m with
      | nil => have := congrArg List.length e; rw [List.length_take] at this; simp at this; rcases this with h | h; exact absurd h h0; rw [h] at hlt; simp at hlt
      | cons => rfl
    rw [this, if_neg h0]; simp
theorem outM_zero (j : J) : outM j 0 = [if j.k = 5 then 123 else 91] := by simp [outM, joinF]
theorem outM_end {j : J} (h4 : 4 ≤ j.k) : outM j j.items.length ++ [if j.k = 5 then 125 else 93] = pr j := by
  have he : pr j = (if j.k = 5 then 123 else 91) :: (joinF true (pieces j.k j.keys (j.items.map pr)) ++ [if j.k = 5 then 125 else 93]) := by
    rw [pr_eq, if_neg (show ¬ j.k = 0 by omega), if_neg (show ¬ j.k = 1 by omega), if_neg (show ¬ j.k = 2 by omega), if_neg (show ¬ j.k = 3 by omega)]
  rw [he]
  unfold outM
  rw [List.take_of_length_le (by have := (pieces_len j.k j.keys (j.items.map pr)).2; simpa using this)]
  simp
end Go.Proofs.YtodgijhpokjjhaaDoor
