import Derived.Test.YtkncpfhblciplaaYax
namespace Go.Proofs.Ytkncpfhblciplaa
open Go.RowKit
set_option linter.unusedSimpArgs false
theorem bl_trans : ∀ x y z : List UInt8, Op.bytesLess x y = true → Op.bytesLess y z = true → Op.bytesLess x z = true
  | _, [], _, h, _ => by cases ‹List UInt8› <;> simp [Op.bytesLess] at h
  | _, _ :: _, [], _, h => by simp [Op.bytesLess] at h
  | [], _ :: _, _ :: _, _, _ => by simp [Op.bytesLess]
  | a :: r, b :: s, c :: t, h, k => by
    simp only [Op.bytesLess, Bool.or_eq_true, Bool.and_eq_true, decide_eq_true_eq, beq_iff_eq] at h k ⊢
    rcases h with h | ⟨h1, h2⟩
    · rcases k with k | ⟨k1, k2⟩
      · exact .inl (UInt8.lt_trans h k)
      · exact .inl (k1 ▸ h)
    · rcases k with k | ⟨k1, k2⟩
      · exact .inl (h1 ▸ k)
      · exact .inr ⟨h1.trans k1, bl_trans r s t h2 k2⟩
theorem bl_tri : ∀ x y : List UInt8, x ≠ y → Op.bytesLess x y = false → Op.bytesLess y x = true
  | [], [], h, _ => absurd rfl h
  | [], _ :: _, _, h => by simp [Op.bytesLess] at h
  | _ :: _, [], _, _ => by simp [Op.bytesLess]
  | a :: r, b :: s, hn, h => by
    simp only [Op.bytesLess, Bool.or_eq_false_iff, Bool.and_eq_false_iff, decide_eq_false_iff_not, Bool.or_eq_true, Bool.and_eq_true, decide_eq_true_eq, beq_iff_eq, beq_eq_false_iff_ne] at h ⊢
    by_cases e : a = b
    · subst e
      refine .inr ⟨rfl, bl_tri r s (fun e => hn (by rw [e])) ?_⟩
      rcases h.2 with h | h
      · exact absurd rfl h
      · exact h
    · left
      rcases Nat.lt_or_ge b.toNat a.toNat with h1 | h1
      · exact h1
      · have h2 : ¬ a.toNat < b.toNat := h.1
        exact absurd (UInt8.toNat_inj.1 (by omega)) e
theorem bl_asymm {x y : List UInt8} (h : Op.bytesLess x y = true) : Op.bytesLess y x = false := by
  cases e : Op.bytesLess y x
  · rfl
  · have := bl_trans x y x h e
    rw [bl_self] at this
    cases this
theorem cmp_lt {a b : At} : cmpA a b < 0 ↔ a.k < b.k ∨ (a.k = b.k ∧ (a.n < b.n ∨ (a.n = b.n ∧ Op.bytesLess a.t b.t = true))) := by
  unfold cmpA
  by_cases h : a.k = b.k
  · rw [if_neg (by simp [h])]
    by_cases h2 : a.n = b.n
    · rw [if_neg (by simp [h2])]
      by_cases h3 : a.t = b.t
      · rw [if_neg (by simp [h3]), h3, bl_self]
        simp; omega
      · rw [if_pos h3]
        by_cases h4 : Op.bytesLess a.t b.t = true
        · rw [if_pos h4]; simp [h, h2, h4]
        · rw [if_neg h4]; simp [h, h2, h4]
    · rw [if_pos h2]
      by_cases h3 : a.n < b.n
      · rw [if_pos h3]; simp [h, h3]
      · rw [if_neg h3]; simp [h, h2, h3]
  · rw [if_pos h]
    by_cases h3 : a.k < b.k
    · rw [if_pos h3]; simp [h3]
    · rw [if_neg h3]; simp [h, h3]
theorem cmp_trans {a b c : At} (h : cmpA a b < 0) (k : cmpA b c < 0) : cmpA a c < 0 := by
  rw [cmp_lt] at h k ⊢
  rcases h with h | ⟨h1, h2⟩
  · rcases k with k | ⟨k1, -⟩
    · exact .inl (by omega)
    · exact .inl (by omega)
  · rcases k with k | ⟨k1, k2⟩
    · exact .inl (by omega)
    · refine .inr ⟨by omega, ?_⟩
      rcases h2 with h2 | ⟨h2, h3⟩
      · rcases k2 with k2 | ⟨k2, -⟩
        · exact .inl (by omega)
        · exact .inl (by omega)
      · rcases k2 with k2 | ⟨k2, k3⟩
        · exact .inl (by omega)
        · exact .inr ⟨by omega, bl_trans _ _ _ h3 k3⟩
theorem cmp_self (a : At) : ¬ cmpA a a < 0 := by rw [cmp_0 rfl rfl rfl]; omega
theorem cmp_gt {a b : At} (h : cmpA a b < 0) : 0 < cmpA b a := by
  rw [cmp_lt] at h
  unfold cmpA
  rcases h with h | ⟨h1, h | ⟨h2, h3⟩⟩
  · rw [if_pos (by omega), if_neg (by omega)]; omega
  · rw [if_neg (by omega), if_pos (by omega), if_neg (by omega)]; omega
  · rw [if_neg (by omega), if_neg (by omega), if_pos (fun e => by rw [e, bl_self] at h3; cases h3), if_neg (by rw [bl_asymm h3]; simp)]; omega
theorem cmp_tri {a b : At} (hn : a ≠ b) (h : ¬ cmpA a b < 0) : cmpA b a < 0 := by
  rw [cmp_lt] at h ⊢
  by_cases h1 : a.k = b.k
  · by_cases h2 : a.n = b.n
    · by_cases h3 : a.t = b.t
      · exact absurd (At.ext' h1 h2 h3) hn
      · refine .inr ⟨h1.symm, .inr ⟨h2.symm, bl_tri _ _ h3 ?_⟩⟩
        cases e : Op.bytesLess a.t b.t
        · rfl
        · exact absurd (.inr ⟨h1, .inr ⟨h2, e⟩⟩) h
    · exact .inr ⟨h1.symm, .inl (by omega)⟩
  · exact .inl (by omega)
def Rise (l : List At) : Prop := l.Pairwise (fun a b => cmpA a b < 0)
theorem Rise.get {l : List At} (h : Rise l) {i j : Nat} (hi : i < l.length) (hj : j < l.length) (hij : i < j) : cmpA l[i] l[j] < 0 := (List.pairwise_iff_getElem.1 h) i j hi hj hij
theorem posTo_at {l : List At} {x : At} {m : Nat} (h1 : ∀ q (h : q < l.length), q < m → cmpA l[q] x < 0) (h2 : ∀ q (h : q < l.length), m ≤ q → 0 < cmpA l[q] x) : ∀ k, m ≤ k → k ≤ l.length → posTo l x k = m
  | 0, h, _ => by rw [posTo]; omega
  | k + 1, h, hk => by
    rw [posTo, at_getD (show k < l.length by omega)]
    by_cases e : m ≤ k
    · rw [if_pos (h2 k (by omega) e)]
      exact posTo_at h1 h2 k e (by omega)
    · have := h1 k (by omega) (by omega)
      rw [if_neg (by omega)]; omega
theorem rise_ins {l : List At} {x : At} {m : Nat} (hR : Rise l) (h1 : ∀ q (h : q < l.length), q < m → cmpA l[q] x < 0) (h2 : ∀ q (h : q < l.length), m ≤ q → cmpA x l[q] < 0) : Rise (insA l m x) := by
  unfold Rise insA
  have hA : ∀ a ∈ l.take m, cmpA a x < 0 := fun a ha => by
    obtain ⟨q, hq, rfl⟩ := List.getElem_of_mem ha
    rw [List.length_take] at hq
    rw [List.getElem_take]
    exact h1 q (by omega) (by omega)
  have hB : ∀ b ∈ l.drop m, cmpA x b < 0 := fun b hb => by
    obtain ⟨q, hq, rfl⟩ := List.getElem_of_mem hb
    rw [List.getElem_drop]
    exact h2 (m + q) (by rw [List.length_drop] at hq; omega) (by omega)
  have hT : Rise (l.take m ++ l.drop m) := by rw [List.take_append_drop]; exact hR
  unfold Rise at hT
  rw [List.pairwise_append] at hT ⊢
  refine ⟨?_, hT.2.1, fun a ha b hb => ?_⟩
  · rw [List.pairwise_append]
    exact ⟨hT.1, List.pairwise_singleton _ _, fun a ha b hb => by rw [List.mem_singleton.1 hb]; exact hA a ha⟩
  · rcases List.mem_append.1 ha with ha | ha
    · exact hT.2.2 a ha b hb
    · rw [List.mem_singleton.1 ha]; exact hB b hb
theorem put_has {l : List At} {x : At} {m : Nat} (hm : m < l.length) (he : l[m] = x) : putL l x = l := by
  unfold putL
  rw [if_pos (hasB_true hm he)]
theorem put_ins {l : List At} {x : At} {m : Nat} (hR : Rise l) (hm : m ≤ l.length) (h1 : ∀ q (h : q < l.length), q < m → cmpA l[q] x < 0) (h2 : ∀ h : m < l.length, ¬ cmpA l[m] x < 0 ∧ l[m] ≠ x) : putL l x = insA l m x ∧ Rise (insA l m x) := by
  have h3 : ∀ q (h : q < l.length), m ≤ q → cmpA x l[q] < 0 := fun q h hq => by
    obtain ⟨a, b⟩ := h2 (by omega)
    have h0 := cmp_tri b a
    by_cases e : m = q
    · subst e; exact h0
    · exact cmp_trans h0 (hR.get (by omega) h (by omega))
  have hh : hasB l x = false := hasB_false (fun k hk e => by
    by_cases hlt : k < m
    · exact cmp_self x (e ▸ h1 k hk hlt)
    · exact cmp_self x (by have := h3 k hk (by omega); rw [e] at this; exact this))
  refine ⟨?_, rise_ins hR h1 h3⟩
  unfold putL posA
  rw [if_neg (by rw [hh]; simp), posTo_at h1 (fun q h hq => cmp_gt (h3 q h hq)) l.length hm (Nat.le_refl _)]
  rfl
end Go.Proofs.Ytkncpfhblciplaa
