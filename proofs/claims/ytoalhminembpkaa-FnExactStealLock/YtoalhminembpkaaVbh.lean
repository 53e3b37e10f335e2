import Derived.Test.YtoalhminembpkaaVbc
namespace Go.Proofs.Ytoalhminembpkaa
open Go.RowKit
set_option linter.unusedSimpArgs false
def atL (l : List LkV) (k : Nat) : LkV := l.getD k ⟨[], []⟩
theorem atL_at {l : List LkV} {k : Nat} (h : k < l.length) : atL l k = l[k] := by unfold atL; rw [List.getD_eq_getElem?_getD, List.getElem?_eq_getElem h]; rfl
def tkX (l : List LkV) (s : List UInt8) : LkV := atL (roomL l s) (roomK l s)
theorem lks_set (es : List LE) (k : Nat) (x : LkV) (u : Value) : lks (es.set k ⟨x, u⟩) = (lks es).set k x := by unfold lks; rw [List.map_set]
theorem ask_longS {l : List LkV} {n : Int} {s : List UInt8} (h : 65536 < s.length) : askC l n s = 2 := by unfold askC askK; rw [decide_eq_true (p := 65536 < s.length) h, Bool.or_true]; rfl
theorem lks_que {l : List LkV} (h : LksP l) : ∀ k (hk : k < l.length), 0 < l[k].qu.length ∧ l[k].qu.length ≤ 1000 := fun k hk => by have := (h.que k hk).len; omega
end Go.Proofs.Ytoalhminembpkaa
