import Derived.Test.YtoalhminembpkaaUbc
namespace Go.Proofs.Ytoalhminembpkaa
open Go.RowKit
set_option linter.unusedSimpArgs false
def atL (l : List LkV) (k : Nat) : LkV := l.getD k ⟨[], []⟩
theorem atL_at {l : List LkV} {k : Nat} (h : k < l.length) : atL l k = l[k] := by unfold atL; rw [List.getD_eq_getElem?_getD, List.getElem?_eq_getElem h]; rfl
theorem lks_set (es : List LE) (k : Nat) (x : LkV) (u : Value) : lks (es.set k ⟨x, u⟩) = (lks es).set k x := by unfold lks; rw [List.map_set]
theorem queI {base : Nat} {W : World} {q : List Int} {u : Value} (h : QOw base W q u) (n : Int) (a : Option Addr) (c : Nat) (e : u = .slice a q.length c) (hl : q.length ≤ maxLen) : Calls Try.prog 36 #[.slice a q.length c, .int .i64 n] W fun e w' => e = .returned (.bool (inK q q.length n)) ∧ w' = W := by
  subst e
  exact inIntS q q.length n a c _ W hl (Nat.le_refl _) h.own.rd'
theorem lks_que {l : List LkV} (h : LksP l) : ∀ k (hk : k < l.length), 0 < l[k].qu.length ∧ l[k].qu.length ≤ 1000 := fun k hk => by have := (h.que k hk).len; omega
end Go.Proofs.Ytoalhminembpkaa
