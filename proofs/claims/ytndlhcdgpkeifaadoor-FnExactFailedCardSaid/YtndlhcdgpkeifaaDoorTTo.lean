import Derived.Test.YtndlhcdgpkeifaaDoorTMem
namespace Go.Proofs.YtndlhcdgpkeifaaDoor
open Go.RowKit
set_option linter.unusedSimpArgs false
/-- a row that can be written -/
def OwnRw (w : World) (B : Nat → Prop) (a : Option Addr) (n : Nat) (f : Nat → Value) : Prop :=
  n = 0 ∨ ∃ b off, a = some ⟨b, off, none⟩ ∧ B b ∧ ∀ m, m < n → w.cell? ⟨b, off + m, none⟩ = some (f m) ∧ w.frozen? ⟨b, off + m, none⟩ = false
theorem OwnRw.rw {w : World} {B : Nat → Prop} {a : Option Addr} {n : Nat} {f : Nat → Value} (h : OwnRw w B a n f) : Rw w B a n f := by
  rcases h with h | ⟨b, off, ha, hb, hc⟩
  · exact .inl h
  · exact .inr ⟨b, off, ha, hb, fun m hm => (hc m hm).1⟩
theorem OwnRw.same {w w' : World} {B B' : Nat → Prop} {a : Option Addr} {n : Nat} {f : Nat → Value} (h : OwnRw w B a n f) (hs : ∀ b, B b → w'.heap[b]? = w.heap[b]?) (hB : ∀ b, B b → B' b) : OwnRw w' B' a n f := by
  rcases h with h | ⟨b, off, ha, hb, hc⟩
  · exact .inl h
  · exact .inr ⟨b, off, ha, hB b hb, fun m hm => by
      rw [World.cell?_of_block (w := w) (a := ⟨b, off + m, none⟩) (hs b hb), World.frozen?_of_block (w := w) (a := ⟨b, off + m, none⟩) (hs b hb)]; exact hc m hm⟩
def OwnCols (w : World) (B : Nat → Prop) (a : Option Addr) (l : List Cl) : Prop := OwnRw w B a (l.length * 8) (clF l)
def OwnInts (w : World) (B : Nat → Prop) (a : Option Addr) (l : List Int) : Prop := OwnRw w B a l.length (fun m => .int .i64 (l.getD m 0))
def zeroCl : Array Value := #[.string ⟨#[]⟩, .int .i64 0, .int .i64 0, .int .i64 0, .int .i64 0, .int .i64 0, .string ⟨#[]⟩, .bool false]
theorem rowIs_made (w : World) (z : Array Value) (n : Nat) (t : TypeId) : ∃ f, (w.alloc (.cells (madeCells z n) t)).rowIs w.heap.size t n f :=
  ⟨fun i => (madeCells z n).getD i default, by
    have := World.rowIs_alloc w (madeCells z n) t (fun i => (madeCells z n).getD i default) (fun i h => by rw [Array.getElem?_eq_getElem h]; simp [Array.getD, h])
    rwa [size_madeCells] at this⟩
def putC (w : World) (b k : Nat) (x : Cl) : World := (((((((w.setCell ⟨b, k * 8, none⟩ (.string ⟨x.nm.toArray⟩)).setCell ⟨b, k * 8 + 1, none⟩ (.int .i64 x.k)).setCell ⟨b, k * 8 + 2, none⟩ (.int .i64 x.mn)).setCell ⟨b, k * 8 + 3, none⟩ (.int .i64 x.mx)).setCell ⟨b, k * 8 + 4, none⟩ (.int .i64 x.lo)).setCell ⟨b, k * 8 + 5, none⟩ (.int .i64 x.hi)).setCell ⟨b, k * 8 + 6, none⟩ (.string ⟨x.rf.toArray⟩)).setCell ⟨b, k * 8 + 7, none⟩ (.bool x.st)
theorem below_putC {w w1 : World} {S b k : Nat} {x : Cl} (h : Below S w w1) (hb : S ≤ b) : Below S w (putC w1 b k x) := (((((((h.setCell hb _).setCell hb _).setCell hb _).setCell hb _).setCell hb _).setCell hb _).setCell hb _).setCell hb _
/-! numbers -/
def DoneI (wr : World) (b k : Nat) (l : List Int) : Prop := ∃ f, wr.rowIs b 3 l.length f ∧ ∀ m, m < k → f m = .int .i64 (l.getD m 0)
theorem int_getD {l : List Int} {i : Nat} (h : i < l.length) : l.getD i 0 = l[i] := by rw [List.getD_eq_getElem?_getD, List.getElem?_eq_getElem h]; rfl
theorem DoneI.step {w1 : World} {b k : Nat} {l : List Int} {f : Nat → Value} (hf : w1.rowIs b 3 l.length f) (hd : ∀ m, m < k → f m = .int .i64 (l.getD m 0)) (hk : k < l.length) : DoneI (w1.setCell ⟨b, k, none⟩ (.int .i64 l[k])) b (k + 1) l := by
  refine ⟨_, hf.set k _, fun m hm => ?_⟩
  by_cases h : m = k
  · subst h; rw [int_getD hk]; simp
  · simp only [h, if_false]
    exact hd m (by omega)
end Go.Proofs.YtndlhcdgpkeifaaDoor
