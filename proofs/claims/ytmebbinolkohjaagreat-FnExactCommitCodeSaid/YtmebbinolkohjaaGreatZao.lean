import Derived.Test.YtmebbinolkohjaaGreatZan
namespace Go.Proofs.YtmebbinolkohjaaGreat
open Go.RowKit
set_option linter.unusedSimpArgs false
structure AdS where
  a : Option Addr
  c : Nat
def setF (l : List (List At)) (X : Nat → AdS) (m : Nat) : Value := .slice (X m).a (l.getD m []).length (X m).c
theorem set_getD {l : List (List At)} {i : Nat} (h : i < l.length) : l.getD i [] = l[i] := by rw [List.getD_eq_getElem?_getD, List.getElem?_eq_getElem h]; rfl
structure Sets (w : World) (B : Nat → Prop) (a : Option Addr) (l : List (List At)) (X : Nat → AdS) : Prop where
  row : Rw w B a l.length (setF l X)
  has : ∀ i (h : i < l.length), Ats w B (X i).a l[i]
theorem Sets.at {w : World} {B : Nat → Prop} {a : Option Addr} {l : List (List At)} {X : Nat → AdS} (h : Sets w B a l X) (k : Nat) (hk : k < l.length) : ∃ b off, a = some ⟨b, off, none⟩ ∧ B b ∧ ∀ i (h : i < l.length), w.cell? ⟨b, off + i, none⟩ = some (.slice (X i).a l[i].length (X i).c) := by
  obtain ⟨b, off, e, hb, hc⟩ := Rw.at h.row k hk
  refine ⟨b, off, e, hb, fun i hi => ?_⟩
  rw [hc i hi]
  unfold setF
  rw [set_getD hi]
theorem Sets.same {w w' : World} {B B' : Nat → Prop} {a : Option Addr} {l : List (List At)} {X : Nat → AdS} (h : Sets w B a l X) (hs : ∀ b, B b → w'.heap[b]? = w.heap[b]?) (hB : ∀ b, B b → B' b) : Sets w' B' a l X := ⟨h.row.same hs hB, fun i hi => (h.has i hi).same hs hB⟩
theorem Sets.later {w w' : World} {B : Nat → Prop} {a : Option Addr} {l : List (List At)} {X : Nat → AdS} (h : Sets w B a l X) (hb : Below w.heap.size w w') : Sets w' B a l X := ⟨h.row.inside.same (fun b hb' => hb.block b hb'.2) (fun _ h => h.1), fun i hi => (h.has i hi).later hb⟩
theorem Sets.spot {w : World} {B : Nat → Prop} {b off : Nat} {l : List (List At)} {X : Nat → AdS} (h : Sets w B (some ⟨b, off, none⟩) l X) (i : Nat) (hi : i < l.length) : w.cell? ⟨b, off + i, none⟩ = some (.slice (X i).a l[i].length (X i).c) := by
  obtain ⟨b', off', e, -, hc⟩ := h.at i hi
  simp only [Option.some.injEq, Addr.mk.injEq, and_true] at e
  obtain ⟨rfl, rfl⟩ := e
  exact hc i hi
def SetsOk (l : List (List At)) : Prop := l.length ≤ maxLen ∧ ∀ s ∈ l, s.length ≤ maxLen ∧ ∀ x ∈ s, x.t.length ≤ maxLen
end Go.Proofs.YtmebbinolkohjaaGreat
