import Derived.Test.YtoalhminembpkaaUaf
import Derived.WalkKit
import Derived.Test.YtoalhminembpkaaUag
import Derived.Lib.Hide
import Derived.Deep.RegionWith
import Derived.BigQuiet
namespace Go.Proofs.Ytoalhminembpkaa
open Go.RowKit
set_option linter.unusedSimpArgs false
theorem heap_keptD {w w' : World} {b : Nat} {o : Obj} (h : w.heap[b]? = some o) (hB : Below w.heap.size w w') : w'.heap[b]? = some o := by
  rw [hB.block b (Array.getElem?_eq_some_iff.1 h).1]; exact h
theorem heap_newD (w : World) (o : Obj) : (w.alloc o).heap[w.heap.size]? = some o := by
  show (w.heap.push o)[w.heap.size]? = _
  simp
theorem below_allocD (w : World) (o : Obj) : Below w.heap.size w (w.alloc o) := (Below.refl _ _).alloc (Nat.le_refl _) _
theorem size_allocD (w : World) (o : Obj) : (w.alloc o).heap.size = w.heap.size + 1 := by simp
def BoxD (ty : TypeId) (w W : World) (cs : Array Value) : Prop := W.heap[w.heap.size]? = some (.cells cs ty) ∧ Below w.heap.size w W
theorem boxD (ty : TypeId) (w : World) (cs : Array Value) : BoxD ty w (w.alloc (.cells cs ty)) cs := ⟨heap_newD _ _, below_allocD _ _⟩
theorem BoxD.later {ty : TypeId} {w W W' : World} {cs : Array Value} (h : BoxD ty w W cs) (hB : Below W.heap.size W W') : BoxD ty w W' cs := ⟨heap_keptD h.1 hB, h.2.trans (hB.mono h.2.size)⟩
theorem BoxD.drew {ty : TypeId} {w W : World} {cs : Array Value} (h : BoxD ty w W cs) : BoxD ty w W.drew cs := h.later (Below.refl _ _).drew
structure Box2D (ty : TypeId) (w W : World) (cs ds : Array Value) : Prop where
  a : W.heap[w.heap.size]? = some (.cells cs ty)
  b : W.heap[w.heap.size + 1]? = some (.cells ds ty)
  bel : Below w.heap.size w W
theorem box2D (ty : TypeId) (w : World) (cs ds : Array Value) : Box2D ty w ((w.alloc (.cells cs ty)).alloc (.cells ds ty)) cs ds := by
  refine ⟨heap_keptD (heap_newD _ _) (below_allocD _ _), ?_, (below_allocD _ _).trans ((below_allocD _ _).mono (by simp))⟩
  have h := heap_newD (w.alloc (.cells cs ty)) (.cells ds ty)
  rw [size_allocD] at h
  exact h
theorem Box2D.later {ty : TypeId} {w W W' : World} {cs ds : Array Value} (h : Box2D ty w W cs ds) (hB : Below W.heap.size W W') : Box2D ty w W' cs ds := ⟨heap_keptD h.a hB, heap_keptD h.b hB, h.bel.trans (hB.mono h.bel.size)⟩
structure St3 (w V : World) (ty ty' : TypeId) (p z o : Array Value) : Prop where
  bx : V.heap[w.heap.size]? = some (.cells p ty)
  rv : V.heap[w.heap.size + 1]? = some (.cells z ty')
  ot : V.heap[w.heap.size + 1 + 1]? = some (.cells o ty')
  bel : Below w.heap.size w V
theorem St3.later {w V V' : World} {ty ty' : TypeId} {p z o : Array Value} (h : St3 w V ty ty' p z o) (hB : Below V.heap.size V V') : St3 w V' ty ty' p z o := ⟨heap_keptD h.bx hB, heap_keptD h.rv hB, heap_keptD h.ot hB, h.bel.trans (hB.mono h.bel.size)⟩
theorem St3.set {w V : World} {ty ty' : TypeId} {p z o : Array Value} (h : St3 w V ty ty' p z o) (k : Nat) (v : Value) : St3 w (V.setCell ⟨w.heap.size + 1 + 1, k, none⟩ v) ty ty' p z (o.setIfInBounds k v) :=
  ⟨by rw [Below.heap_setCell _ ⟨w.heap.size + 1 + 1, k, none⟩ v _ (by show w.heap.size ≠ w.heap.size + 1 + 1; omega)]; exact h.bx, by rw [Below.heap_setCell _ ⟨w.heap.size + 1 + 1, k, none⟩ v _ (by show w.heap.size + 1 ≠ w.heap.size + 1 + 1; omega)]; exact h.rv, heap_set k v h.ot, h.bel.setCell (by show w.heap.size ≤ w.heap.size + 1 + 1; omega) _⟩
theorem st3First (w : World) (ty ty' : TypeId) (p z o : Array Value) : St3 w (((w.alloc (.cells p ty)).alloc (.cells z ty')).alloc (.cells o ty')) ty ty' p z o := by
  refine ⟨heap_keptD (heap_keptD (heap_newD _ _) (below_allocD _ _)) (below_allocD _ _), ?_, ?_, (((Below.refl _ _).alloc (Nat.le_refl _) _).alloc (by simp) _).alloc (by simp; omega) _⟩
  · have h := heap_keptD (heap_newD (w.alloc (.cells p ty)) (.cells z ty')) (below_allocD _ (.cells o ty'))
    rw [size_allocD] at h
    exact h
  · have h := heap_newD ((w.alloc (.cells p ty)).alloc (.cells z ty')) (.cells o ty')
    rw [size_allocD, size_allocD] at h
    exact h
end Go.Proofs.Ytoalhminembpkaa
