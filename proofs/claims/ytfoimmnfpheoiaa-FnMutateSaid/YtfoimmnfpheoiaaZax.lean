import Derived.Test.YtfoimmnfpheoiaaZaw
import Derived.Test.YtfoimmnfpheoiaaZal
namespace Go.Proofs.Ytfoimmnfpheoiaa
open Go.RowKit
set_option linter.unusedSimpArgs false
theorem hasB_iff {l : List At} {x : At} : hasB l x = true ↔ x ∈ l := by
  unfold hasB
  rw [List.any_eq_true]
  constructor
  · rintro ⟨y, hy, e⟩
    rw [← sameAt_iff.1 e]
    exact hy
  · intro h
    exact ⟨x, h, sameAt_iff.2 rfl⟩
theorem mem_put {l : List At} {x y : At} : y ∈ putL l x ↔ y ∈ l ∨ y = x := by
  unfold putL
  split
  · rename_i h
    constructor
    · exact .inl
    · rintro (h' | rfl)
      · exact h'
      · exact hasB_iff.1 h
  · have e : y ∈ l ↔ y ∈ l.take (posA l x) ∨ y ∈ l.drop (posA l x) := by
      rw [← List.mem_append, List.take_append_drop]
    rw [e, List.mem_append, List.mem_append, List.mem_singleton]
    constructor
    · rintro ((h | h) | h)
      · exact .inl (.inl h)
      · exact .inr h
      · exact .inl (.inr h)
    · rintro ((h | h) | h)
      · exact .inl (.inl h)
      · exact .inr h
      · exact .inl (.inr h)
theorem mem_join {y : At} : ∀ {b a : List At}, y ∈ joinL a b ↔ y ∈ a ∨ y ∈ b
  | [], a => by simp [joinL]
  | x :: b, a => by
    have h := mem_join (y := y) (b := b) (a := putL a x)
    unfold joinL at h ⊢
    rw [List.foldl_cons, h, mem_put, List.mem_cons, or_assoc]
theorem mem_minus {a b : List At} {y : At} : y ∈ minusA a b ↔ y ∈ a ∧ y ∉ b := by
  unfold minusA
  rw [List.mem_filter]
  have : (!hasB b y) = true ↔ y ∉ b := by
    rw [← hasB_iff]
    cases hasB b y <;> simp
  rw [this]
theorem rise_minus {a : List At} (h : Rise a) (b : List At) : Rise (minusA a b) := List.Pairwise.sublist List.filter_sublist h
theorem rise_ext : ∀ {a b : List At}, Rise a → Rise b → (∀ y, y ∈ a ↔ y ∈ b) → a = b
  | [], [], _, _, _ => rfl
  | [], y :: b, _, _, h => absurd ((h y).2 List.mem_cons_self) List.not_mem_nil
  | x :: a, [], _, _, h => absurd ((h x).1 List.mem_cons_self) List.not_mem_nil
  | x :: a, y :: b, ha, hb, h => by
    obtain ⟨hx, ha'⟩ := List.pairwise_cons.1 ha
    obtain ⟨hy, hb'⟩ := List.pairwise_cons.1 hb
    have e : x = y := by
      rcases List.mem_cons.1 ((h x).1 List.mem_cons_self) with e | h1
      · exact e
      · rcases List.mem_cons.1 ((h y).2 List.mem_cons_self) with e | h2
        · exact e.symm
        · exact absurd (cmp_trans (hx y h2) (hy x h1)) (cmp_self x)
    subst e
    rw [rise_ext ha' hb' (fun z => ?_)]
    constructor
    · intro hz
      rcases List.mem_cons.1 ((h z).1 (List.mem_cons_of_mem _ hz)) with e | h1
      · subst e; exact absurd (hx z hz) (cmp_self z)
      · exact h1
    · intro hz
      rcases List.mem_cons.1 ((h z).2 (List.mem_cons_of_mem _ hz)) with e | h1
      · subst e; exact absurd (hy z hz) (cmp_self z)
      · exact h1
theorem minus_join {a : List At} (h : Rise a) (b : List At) : minusA (joinL a b) b = minusA a b :=
  rise_ext (rise_minus (rise_join h b) b) (rise_minus h b) (fun y => by
    rw [mem_minus, mem_minus, mem_join]
    constructor
    · rintro ⟨h1 | h1, h2⟩
      · exact ⟨h1, h2⟩
      · exact absurd h1 h2
    · rintro ⟨h1, h2⟩
      exact ⟨.inl h1, h2⟩)
theorem join_minus {a : List At} (h : Rise a) (b : List At) : joinL (minusA a b) b = joinL a b :=
  rise_ext (rise_join (rise_minus h b) b) (rise_join h b) (fun y => by
    rw [mem_join, mem_join, mem_minus]
    constructor
    · rintro (⟨h1, -⟩ | h1)
      · exact .inl h1
      · exact .inr h1
    · rintro (h1 | h1)
      · by_cases h2 : y ∈ b
        · exact .inr h2
        · exact .inl ⟨h1, h2⟩
      · exact .inr h1)
end Go.Proofs.Ytfoimmnfpheoiaa
