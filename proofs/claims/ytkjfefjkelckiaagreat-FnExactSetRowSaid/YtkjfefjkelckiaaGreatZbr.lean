import Derived.Test.YtkjfefjkelckiaaGreatZbq
import Derived.Deep.RegionHeld3
import Derived.Test.YtkjfefjkelckiaaGreatZap
import Derived.ArgAppend
import Derived.OwnWalk
import Derived.Test.YtkjfefjkelckiaaGreatZaq
import Derived.Test.YtkjfefjkelckiaaGreatZar
import Derived.Test.YtkjfefjkelckiaaGreatZav
import Derived.Test.YtkjfefjkelckiaaGreatZbj
import Derived.Test.YtkjfefjkelckiaaGreatZay
import Derived.Test.YtkjfefjkelckiaaGreatZae
namespace Go.Proofs.YtkjfefjkelckiaaGreat
open Go.RowKit
set_option linter.unusedSimpArgs false
theorem place_ex (l : List At) (x : At) : ∃ m, m ≤ l.length ∧ (∀ q (h : q < l.length), q < m → cmpA l[q] x < 0) ∧ ∀ h : m < l.length, ¬ cmpA l[m] x < 0 := by
  refine ⟨l.findIdx (fun y => !decide (cmpA y x < 0)), List.findIdx_le_length, fun q h hq => ?_, fun h => ?_⟩
  · have := List.not_of_lt_findIdx hq
    simpa using this
  · have := List.findIdx_getElem (w := h)
    simpa using this
theorem rise_put {l : List At} (hR : Rise l) (x : At) : Rise (putL l x) := by
  obtain ⟨m, hm, h1, h2⟩ := place_ex l x
  by_cases h : ∃ h : m < l.length, l[m] = x
  · obtain ⟨h, he⟩ := h
    rw [put_has h he]; exact hR
  · obtain ⟨e, hr⟩ := put_ins hR hm h1 (fun h' => ⟨h2 h', fun e => h ⟨h', e⟩⟩)
    rw [e]; exact hr
structure Sl where
  l : List At
  a : Option Addr
  c : Nat
def flat (s : List Sl) : List At := s.flatMap (·.l)
theorem rise_nil : Rise [] := List.Pairwise.nil
end Go.Proofs.YtkjfefjkelckiaaGreat
namespace Go.Proofs.YtkjfefjkelckiaaGreat
open Go.RowKit
set_option linter.unusedSimpArgs false
theorem hasB_iff {l : List At} {x : At} : hasB l x = true ↔ x ∈ l := by
  unfold hasB
  rw [List.any_eq_true]
  constructor
  · rintro ⟨y, hy, e⟩
    rw [← sameAt_iff.1 e]
    exact hy
  · intro h
    exact ⟨x, h, sameAt_iff.2 rfl⟩
theorem mem_put {l : List At} {x y : At} : y ∈ putL l x ↔ y ∈ l ∨ y = x := by
  unfold putL
  split
  · rename_i h
    constructor
    · exact .inl
    · rintro (h' | rfl)
      · exact h'
      · exact hasB_iff.1 h
  · have e : y ∈ l ↔ y ∈ l.take (posA l x) ∨ y ∈ l.drop (posA l x) := by
      rw [← List.mem_append, List.take_append_drop]
    rw [e, List.mem_append, List.mem_append, List.mem_singleton]
    constructor
    · rintro ((h | h) | h)
      · exact .inl (.inl h)
      · exact .inr h
      · exact .inl (.inr h)
    · rintro ((h | h) | h)
      · exact .inl (.inl h)
      · exact .inr h
      · exact .inl (.inr h)
end Go.Proofs.YtkjfefjkelckiaaGreat
namespace Go.Proofs.YtkjfefjkelckiaaGreat
open Go.RowKit
set_option linter.unusedSimpArgs false
def Dk (k : Int) (L : List At) : Prop := Rise L ∧ ∀ y ∈ L, y.k = k ∧ atOK y = true
theorem Dk.nil (k : Int) : Dk k [] := ⟨rise_nil, fun y hy => absurd hy (by simp)⟩
theorem Dk.put {k : Int} {A : List At} {x : At} (ha : Dk k A) (hx : x.k = k ∧ atOK x = true) : Dk k (putL A x) := ⟨rise_put ha.1 x, fun y hy => by
  rcases mem_put.1 hy with h | h
  · exact ha.2 y h
  · subst h; exact hx⟩
theorem Dk.of {k : Int} {L : List At} (h : datumB L = true) (hk : 0 < L.length → (L.getD 0 atZ).k = k) : Dk k L ∧ L.length ≤ 8 := by
  rw [datumB_eq] at h
  simp only [Bool.and_eq_true, decide_eq_true_eq] at h
  refine ⟨⟨rise_of h.2.2, fun y hy => ?_⟩, h.1⟩
  obtain ⟨i, hi, rfl⟩ := List.mem_iff_getElem.1 hy
  have e := errAt_zero.1 ((errOf_zero L).1 h.2.1 i hi)
  rw [at_getD hi] at e
  exact ⟨e.2.trans (hk (by omega)), e.1⟩
theorem col_most {x : Cl} (h : colB x = true) : x.mx ≤ 8 := by
  unfold colB at h
  simp only [Bool.and_eq_true] at h
  have := h.2.2.1
  unfold inB at this
  simp only [decide_eq_true_eq] at this
  exact this.2
theorem Dk.first {k : Int} {L : List At} (h : Dk k L) : ¬ (0 < L.length ∧ (L.getD 0 atZ).k ≠ k) := fun hn => by
  rw [at_getD hn.1] at hn
  exact hn.2 (h.2 _ (List.getElem_mem hn.1)).1
theorem fit_few {x : Cl} {L : List At} (hc : colB x = true) (h : fitC x L = 0) : L.length ≤ 8 ∧ (0 < L.length → (L.getD 0 atZ).k = x.k) := by
  have hm := col_most hc
  unfold fitC at h
  split at h
  · omega
  · rename_i h1
    split at h
    · omega
    · rename_i h2
      refine ⟨?_, fun h0 => ?_⟩
      · unfold inB at h2
        simp only [Bool.not_eq_false, decide_eq_true_eq] at h2
        omega
      · cases Int.decEq (L.getD 0 atZ).k x.k with
        | isTrue e => exact e
        | isFalse e => exact absurd ⟨h0, e⟩ h1
theorem Dk.n {L : List At} (h : Dk 1 L) {x : At} (hx : x ∈ L) : -1000000000 ≤ x.n ∧ x.n ≤ 1000000000 := by
  have h1 := h.2 x hx
  have h2 := h1.2
  rw [atOK1 h1.1] at h2
  simp only [Bool.and_eq_true] at h2
  have := h2.1
  unfold inB at this
  simpa using this
end Go.Proofs.YtkjfefjkelckiaaGreat
