import Derived.WalkKit
namespace Go.Proofs.YtaepgahejelkaaaGreat
theorem tkS {α : Type} : (∀ (a : List α) (i : Nat) (h : i < a.toArray.size), a.toArray[i] = a[i]'(by simpa using h)) ∧ (∀ (a : α) (as : List α) (i : Nat) (h : i + 1 < (a :: as).length), getElem (a :: as) (i + 1) h = getElem as i (Nat.lt_of_succ_lt_succ h)) ∧ (∀ (a : α) (as : List α) (h : 0 < (a :: as).length), getElem (a :: as) 0 h = a) ∧ (∀ (l : List α) (i : Nat) (a : α), l.toArray.setIfInBounds i a = (l.set i a).toArray) ∧ (∀ (a b : α) (as : List α), (a :: as).set 0 b = b :: as) ∧ (∀ (a b : α) (as : List α) (n : Nat), (a :: as).set (n + 1) b = a :: as.set n b) :=
 ⟨fun _ _ h => List.getElem_toArray h, List.getElem_cons_succ, List.getElem_cons_zero, List.setIfInBounds_toArray, fun _ _ _ => List.set_cons_zero, fun _ _ _ _ => List.set_cons_succ⟩
end Go.Proofs.YtaepgahejelkaaaGreat
