import Derived.Test.YthpenliecgpedaaZad
import Derived.WalkKit
import Derived.Test.YthpenliecgpedaaZae
import Derived.Lib.Hide
import Derived.Deep.RegionWith
import Derived.BigQuiet
namespace Go.Proofs.Ythpenliecgpedaa
open Go.RowKit
set_option linter.unusedSimpArgs false
theorem heap_keptD {w w' : World} {b : Nat} {o : Obj} (h : w.heap[b]? = some o) (hB : Below w.heap.size w w') : w'.heap[b]? = some o := by
  rw [hB.block b (Array.getElem?_eq_some_iff.1 h).1]; exact h
theorem heap_newD (w : World) (o : Obj) : (w.alloc o).heap[w.heap.size]? = some o := by
  show (w.heap.push o)[w.heap.size]? = _
  simp
theorem below_allocD (w : World) (o : Obj) : Below w.heap.size w (w.alloc o) := (Below.refl _ _).alloc (Nat.le_refl _) _
theorem size_allocD (w : World) (o : Obj) : (w.alloc o).heap.size = w.heap.size + 1 := by simp
def BoxD (ty : TypeId) (w W : World) (cs : Array Value) : Prop := W.heap[w.heap.size]? = some (.cells cs ty) ∧ Below w.heap.size w W
theorem boxD (ty : TypeId) (w : World) (cs : Array Value) : BoxD ty w (w.alloc (.cells cs ty)) cs := ⟨heap_newD _ _, below_allocD _ _⟩
theorem BoxD.later {ty : TypeId} {w W W' : World} {cs : Array Value} (h : BoxD ty w W cs) (hB : Below W.heap.size W W') : BoxD ty w W' cs := ⟨heap_keptD h.1 hB, h.2.trans (hB.mono h.2.size)⟩
theorem BoxD.drew {ty : TypeId} {w W : World} {cs : Array Value} (h : BoxD ty w W cs) : BoxD ty w W.drew cs := h.later (Below.refl _ _).drew
structure Box2D (ty : TypeId) (w W : World) (cs ds : Array Value) : Prop where
  a : W.heap[w.heap.size]? = some (.cells cs ty)
  b : W.heap[w.heap.size + 1]? = some (.cells ds ty)
  bel : Below w.heap.size w W
theorem box2D (ty : TypeId) (w : World) (cs ds : Array Value) : Box2D ty w ((w.alloc (.cells cs ty)).alloc (.cells ds ty)) cs ds := by
  refine ⟨heap_keptD (heap_newD _ _) (below_allocD _ _), ?_, (below_allocD _ _).trans ((below_allocD _ _).mono (by simp))⟩
  have h := heap_newD (w.alloc (.cells cs ty)) (.cells ds ty)
  rw [size_allocD] at h
  exact h
theorem Box2D.later {ty : TypeId} {w W W' : World} {cs ds : Array Value} (h : Box2D ty w W cs ds) (hB : Below W.heap.size W W') : Box2D ty w W' cs ds := ⟨heap_keptD h.a hB, heap_keptD h.b hB, h.bel.trans (hB.mono h.bel.size)⟩
end Go.Proofs.Ythpenliecgpedaa
