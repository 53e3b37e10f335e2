import Derived.Test.YtgiaabgcbpafgaaMark
namespace Go.Proofs.Ytgiaabgcbpafgaa
open Go.RowKit
set_option linter.unusedSimpArgs false
/-- places in a row that may be written, and what they hold -/
def Row (w : World) (b off n : Nat) (f : Nat → Value) : Prop := ∀ m, m < n → w.cell? ⟨b, off + m, none⟩ = some (f m) ∧ w.frozen? ⟨b, off + m, none⟩ = false
theorem Row.later {w w' : World} {b off n : Nat} {f : Nat → Value} (h : Row w b off n f) (hB : Below w.heap.size w w') : Row w' b off n f := fun m hm => by
  have hlt := World.block_lt_of_cell? _ _ (h m hm).1
  exact ⟨by rw [hB.cell (p := ⟨b, off + m, none⟩) hlt]; exact (h m hm).1, by rw [hB.frozen (p := ⟨b, off + m, none⟩) hlt]; exact (h m hm).2⟩
theorem Row.same {w w' : World} {b off n : Nat} {f : Nat → Value} (h : Row w b off n f) (hs : w'.heap[b]? = w.heap[b]?) : Row w' b off n f := fun m hm =>
  ⟨by rw [World.cell?_of_block (w := w) (a := ⟨b, off + m, none⟩) hs]; exact (h m hm).1, by rw [World.frozen?_of_block (w := w) (a := ⟨b, off + m, none⟩) hs]; exact (h m hm).2⟩
theorem Row.set {w : World} {b off n : Nat} {f : Nat → Value} (h : Row w b off n f) (i : Nat) (hi : i < n) (v : Value) : Row (w.setCell ⟨b, off + i, none⟩ v) b off n (fun m => if m = i then v else f m) := fun m hm => by
  have h1 := (h m hm).1
  have h2 := (h m hm).2
  refine ⟨?_, by simpa using h2⟩
  show (w.setCell ⟨b, off + i, none⟩ v).cell? ⟨b, off + m, none⟩ = some (if m = i then v else f m)
  by_cases e : m = i
  · subst e
    simp [World.cell?_setCell_same, h1]
  · rw [if_neg e]
    rw [World.cell?_setCell_other]
    · exact h1
    · simp; try omega
theorem Row.congr {w : World} {b off n : Nat} {f g : Nat → Value} (h : Row w b off n f) (e : ∀ m, m < n → f m = g m) : Row w b off n g := fun m hm => ⟨by rw [← e m hm]; exact (h m hm).1, (h m hm).2⟩
theorem OwnStrs.row {w : World} {B : Nat → Prop} {a : Option Addr} {keys : List (List UInt8)} (h : OwnStrs w B a keys) :
    ∃ b off, (0 < keys.length → a = some ⟨b, off, none⟩ ∧ B b) ∧ Row w b off keys.length (fun m => .string ⟨(keys.getD m []).toArray⟩) := by
  rcases h with h | ⟨b, off, ha, hb, hc⟩
  · exact ⟨0, 0, fun h' => absurd h (by omega), fun m hm => absurd h (by omega)⟩
  · exact ⟨b, off, fun _ => ⟨ha, hb⟩, fun m hm => by show w.cell? _ = some (.string ⟨(keys.getD m []).toArray⟩) ∧ _; rw [List.getD_eq_getElem?_getD, List.getElem?_eq_getElem hm]; exact hc m hm⟩
theorem OwnStrs.of_row {w : World} {B : Nat → Prop} {a : Option Addr} {keys : List (List UInt8)} {b off : Nat} (ha : 0 < keys.length → a = some ⟨b, off, none⟩ ∧ B b) (h : Row w b off keys.length (fun m => .string ⟨(keys.getD m []).toArray⟩)) : OwnStrs w B a keys := by
  by_cases h0 : keys.length = 0
  · exact .inl h0
  · obtain ⟨h1, h2⟩ := ha (by omega)
    exact .inr ⟨b, off, h1, h2, fun i hi => by have : w.cell? _ = some (.string ⟨(keys.getD i []).toArray⟩) ∧ _ := h i hi; rw [List.getD_eq_getElem?_getD, List.getElem?_eq_getElem hi] at this; exact this⟩
/-- n marks from k on -/
def marks (n k : Nat) : List (List UInt8) := (List.range n).map fun i => mt (k + i)
theorem marks_len (n k : Nat) : (marks n k).length = n := by simp [marks]
theorem marks_at {n k m : Nat} (h : m < n) : (marks n k).getD m [] = mt (k + m) := by
  rw [List.getD_eq_getElem?_getD]; simp [marks, h]

end Go.Proofs.Ytgiaabgcbpafgaa
