import Derived.Test.YtgiaabgcbpafgaaSz
import Derived.Deep.OwnRows
namespace Go.Proofs.Ytgiaabgcbpafgaa
open Go.RowKit
theorem info9 : (Try.prog.info? 9).map (fun i => (i.zero, i.size, i.bytes)) = some (some (.string ⟨#[]⟩), 1, 16) := by kernel_rfl

/-- the zero value's cells -/
def zero5 : Array Value := #[.int .i64 0, .int .i64 0, .string ⟨#[]⟩, .slice none 0 0, .slice none 0 0]
theorem rowIs_made5 (w : World) (n : Nat) (t : TypeId) : ∃ f, (w.alloc (.cells (madeCells zero5 (n * 5)) t)).rowIs w.heap.size t (n * 5) f :=
  ⟨fun i => (madeCells zero5 (n * 5)).getD i default, by
    have := World.rowIs_alloc w (madeCells zero5 (n * 5)) t (fun i => (madeCells zero5 (n * 5)).getD i default) (fun i h => by rw [Array.getElem?_eq_getElem h]; simp [Array.getD, h])
    rwa [size_madeCells] at this⟩

theorem bcell {W w1 : World} (hb : Below W.heap.size W w1) : (∀ b o, b < W.heap.size → w1.cell? ⟨b, o, none⟩ = W.cell? ⟨b, o, none⟩) ∧ (∀ b o, b < W.heap.size → w1.frozen? ⟨b, o, none⟩ = W.frozen? ⟨b, o, none⟩) :=
  ⟨fun b o h => hb.cell (p := ⟨b, o, none⟩) h, fun b o h => hb.frozen (p := ⟨b, o, none⟩) h⟩

theorem three {w w4 : World} {o0 o1 o2 : Obj} (hb : Below (((w.alloc o0).alloc o1).alloc o2).heap.size (((w.alloc o0).alloc o1).alloc o2) w4) :
    w4.heap[w.heap.size]? = some o0 ∧ w4.heap[w.heap.size + 1]? = some o1 ∧ w4.heap[w.heap.size + 1 + 1]? = some o2 ∧ w.heap.size + 1 + 1 + 1 ≤ w4.heap.size ∧ Below w.heap.size w w4 := by
  have hs : (((w.alloc o0).alloc o1).alloc o2).heap.size = w.heap.size + 1 + 1 + 1 := by simp
  have h0 : (((w.alloc o0).alloc o1).alloc o2).heap = ((w.heap.push o0).push o1).push o2 := rfl
  refine ⟨?_, ?_, ?_, ?_, ?_⟩
  · rw [hb.block _ (by omega), h0, Array.getElem?_push, if_neg (by simp; omega), Array.getElem?_push, if_neg (by simp), Array.getElem?_push, if_pos rfl]
  · rw [hb.block _ (by omega), h0, Array.getElem?_push, if_neg (by simp), Array.getElem?_push, if_pos (by simp)]
  · rw [hb.block _ (by omega), h0, Array.getElem?_push, if_pos (by simp)]
  · have := hb.size; omega
  · exact ((((Below.refl _ _).alloc (Nat.le_refl _) _).alloc (by simp) _).alloc (by simp; omega) _).trans (hb.mono (by omega))
theorem cell_at {w : World} {b o : Nat} {cs : Array Value} {t : TypeId} {v : Value} (h : w.heap[b]? = some (.cells cs t)) (hv : cs[o]? = some v) : w.cell? ⟨b, o, none⟩ = some v := by
  simp [World.cell?, h, hv]
theorem frozen_at {w : World} {b : Nat} (o : Nat) {cs : Array Value} {t : TypeId} (h : w.heap[b]? = some (.cells cs t)) : w.frozen? ⟨b, o, none⟩ = false := by
  simp [World.frozen?, h]

theorem heap_set {w : World} {b : Nat} (o : Nat) {cs : Array Value} {t : TypeId} (v : Value) (h : w.heap[b]? = some (.cells cs t)) : (w.setCell ⟨b, o, none⟩ v).heap[b]? = some (.cells (cs.setIfInBounds o v) t) := by
  simp [World.setCell, Array.getElem?_modify, h]

/-- the last six stores of toJson -/
def sixSet (w6 : World) (n : Nat) (v u0 u1 u2 u3 u4 : Value) : World :=
  (((((w6.setCell ⟨n + 1 + 1, 4, none⟩ v).setCell ⟨n + 1, 0, none⟩ u0).setCell ⟨n + 1, 1, none⟩ u1).setCell ⟨n + 1, 2, none⟩ u2).setCell ⟨n + 1, 3, none⟩ u3).setCell ⟨n + 1, 4, none⟩ u4
theorem six_heap (w6 : World) (n : Nat) (v u0 u1 u2 u3 u4 : Value) (b : Nat) (hb : n + 1 + 1 + 1 ≤ b) : (sixSet w6 n v u0 u1 u2 u3 u4).heap[b]? = w6.heap[b]? := by
  unfold sixSet
  rw [Below.heap_setCell _ _ _ _ (by show b ≠ n + 1; omega), Below.heap_setCell _ _ _ _ (by show b ≠ n + 1; omega), Below.heap_setCell _ _ _ _ (by show b ≠ n + 1; omega), Below.heap_setCell _ _ _ _ (by show b ≠ n + 1; omega), Below.heap_setCell _ _ _ _ (by show b ≠ n + 1; omega), Below.heap_setCell _ _ _ _ (by show b ≠ n + 1 + 1; omega)]
theorem six_below {w w6 : World} {n : Nat} (h : Below n w w6) (v u0 u1 u2 u3 u4 : Value) : Below n w (sixSet w6 n v u0 u1 u2 u3 u4) :=
  (((((h.setCell (by show n ≤ n + 1 + 1; omega) _).setCell (by show n ≤ n + 1; omega) _).setCell (by show n ≤ n + 1; omega) _).setCell (by show n ≤ n + 1; omega) _).setCell (by show n ≤ n + 1; omega) _).setCell (by show n ≤ n + 1; omega) _

end Go.Proofs.Ytgiaabgcbpafgaa
