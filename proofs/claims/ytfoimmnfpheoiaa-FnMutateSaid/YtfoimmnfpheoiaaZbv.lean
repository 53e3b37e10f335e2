import Derived.Test.YtfoimmnfpheoiaaZbu
import Derived.Test.YtfoimmnfpheoiaaZal
import Derived.Test.YtfoimmnfpheoiaaZao
import Derived.Test.YtfoimmnfpheoiaaZaj
namespace Go.Proofs.Ytfoimmnfpheoiaa
open Go.RowKit
set_option linter.unusedSimpArgs false
theorem Drn.datum {k : Nat} {L : List At} (h : Drn k L) (hl : L.length ≤ 8) : datumB L = true := by
  rw [datumB_yes, decide_eq_true hl]
  intro i hi
  cases i with
  | zero => exact step_zero hi (h.2 _ (List.getElem_mem hi)).2
  | succ m =>
    rw [step_up hi (h.2 _ (List.getElem_mem hi)).2 (by rw [(h.2 _ (List.getElem_mem hi)).1, (h.2 _ (List.getElem_mem (show 0 < L.length by omega))).1])]
    exact decide_eq_true (h.1.get (by omega) hi (by omega))
theorem Drn.two {k : Nat} {A B : List At} (ha : Drn k A) (hb : Drn k B) (h1 : A.length ≤ 8) (h2 : B.length ≤ 8) : twoC A B = 0 := by
  unfold twoC
  rw [if_neg (by omega), if_neg (by rw [ha.datum h1, hb.datum h2]; simp), if_neg]
  rintro ⟨p1, p2, hn⟩
  rw [at_getD p1, at_getD p2] at hn
  exact hn (by rw [(ha.2 _ (List.getElem_mem p1)).1, (hb.2 _ (List.getElem_mem p2)).1])
theorem Drn.join {k : Nat} {A B : List At} (ha : Drn k A) (hb : Drn k B) : Drn k (joinL A B) := ⟨rise_join ha.1 B, fun y hy => by
  rcases mem_join.1 hy with h | h
  · exact ha.2 y h
  · exact hb.2 y h⟩
theorem Drn.minus {k : Nat} {A : List At} (ha : Drn k A) (B : List At) : Drn k (minusA A B) := ⟨rise_minus ha.1 B, fun y hy => ha.2 y (mem_minus.1 hy).1⟩
theorem Drn.text {k : Nat} {A : List At} (ha : Drn k A) : ∀ x ∈ A, x.t.length ≤ maxLen := fun x hx => by
  have := atOK_text (ha.2 x hx).2
  unfold maxLen
  omega
theorem join_drn {k : Nat} {A B : List At} (ha : Drn k A) (hb : Drn k B) (h1 : A.length ≤ 4) (h2 : B.length ≤ 4) : joinR A B = joinL A B ∧ joinC A B = 0 ∧ (joinL A B).length ≤ 8 := by
  have h8 : (joinL A B).length ≤ 8 := by have := join_len A B; omega
  have h0 := ha.two hb (by omega) (by omega)
  refine ⟨?_, ?_, h8⟩
  · unfold joinR
    rw [if_pos ⟨h0, by omega⟩]
  · unfold joinC
    rw [if_pos h0, if_neg (by omega)]
theorem minus_len' (A B : List At) : (minusA A B).length ≤ A.length := List.length_filter_le _ _
theorem less_drn {k : Nat} {A B : List At} (ha : Drn k A) (hb : Drn k B) (h1 : A.length ≤ 8) (h2 : B.length ≤ 8) : lessL A B = minusA A B ∧ twoC A B = 0 := by
  have h0 := ha.two hb h1 h2
  refine ⟨?_, h0⟩
  unfold lessL
  rw [if_pos h0]
theorem join_law {k : Nat} {A B : List At} (ha : Drn k A) (hb : Drn k B) (h1 : A.length ≤ 4) (h2 : B.length ≤ 4) :
    joinC A B = 0 ∧ twoC (joinR A B) B = 0 ∧ twoC A B = 0 ∧ lessL (joinR A B) B = lessL A B ∧ joinC (lessL A B) B = 0 ∧ joinR (lessL A B) B = joinR A B := by
  obtain ⟨e1, e2, e3⟩ := join_drn ha hb h1 h2
  obtain ⟨e4, e5⟩ := less_drn ha hb (by omega) (by omega)
  obtain ⟨e6, e7⟩ := less_drn (ha.join hb) hb e3 (by omega)
  have hm := minus_len' A B
  obtain ⟨e8, e9, -⟩ := join_drn (ha.minus B) hb (by omega) h2
  refine ⟨e2, by rw [e1]; exact e7, e5, by rw [e1, e6, e4]; exact minus_join ha.1 B, by rw [e4]; exact e9, by rw [e4, e8, e1]; exact join_minus ha.1 B⟩
end Go.Proofs.Ytfoimmnfpheoiaa
