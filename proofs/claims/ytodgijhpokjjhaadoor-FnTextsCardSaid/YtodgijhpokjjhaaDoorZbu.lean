import Derived.Test.YtodgijhpokjjhaaDoorZbt
namespace Go.Proofs.YtodgijhpokjjhaaDoor
open Go.RowKit
set_option linter.unusedSimpArgs false
def frB (f : Fr) : Obj := .cells #[.string ⟨f.buf.toArray⟩, .int .i64 f.d, .bool f.q, .bool f.s, .bool f.c] 31
theorem frB_cell {W : World} {k : Nat} {f : Fr} (h : W.heap[k]? = some (frB f)) : W.cell? ⟨k, 0, none⟩ = some (.string ⟨f.buf.toArray⟩) ∧ W.cell? ⟨k, 1, none⟩ = some (.int .i64 f.d) ∧ W.cell? ⟨k, 2, none⟩ = some (.bool f.q) ∧ W.cell? ⟨k, 3, none⟩ = some (.bool f.s) ∧ W.cell? ⟨k, 4, none⟩ = some (.bool f.c) :=
  ⟨cell_at (o := 0) h rfl, cell_at (o := 1) h rfl, cell_at (o := 2) h rfl, cell_at (o := 3) h rfl, cell_at (o := 4) h rfl⟩
theorem kept {w w' : World} {b : Nat} {o : Obj} (h : w.heap[b]? = some o) (hB : Below w.heap.size w w') : w'.heap[b]? = some o := by
  rw [hB.block b (Array.getElem?_eq_some_iff.1 h).1]; exact h
theorem FrS.new (w : World) (f : Fr) (vb : Value) (hb : OB w w.heap.size 5 vb (bc f.buf)) : FrS w w.heap.size (w.alloc (.cells (fcs f vb (.slice none 0 0)) 42)) f [] := by
  have hB : Below w.heap.size w (w.alloc (.cells (fcs f vb (.slice none 0 0)) 42)) := (Below.refl _ _).alloc (Nat.le_refl _) _
  exact ⟨vb, .slice none 0 0, hB, Nat.le_refl _, heap_new' _ _, hb.same (fun g hg => hB.block g (hb.lt hg).2), OB.nil _ _ _, fun e => by have := (hb.lt e).2; omega, by simp [Value.ownBlock], fun g _ => by simp [Value.ownBlock]⟩
end Go.Proofs.YtodgijhpokjjhaaDoor
