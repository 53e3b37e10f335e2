import Derived.Test.YtfoimmnfpheoiaaZbc
import Derived.Test.YtfoimmnfpheoiaaZac
import Derived.Test.YtfoimmnfpheoiaaZaa
import Derived.Lib.Hide
import Derived.Deep.RegionWith
import Derived.BigQuiet
import Derived.Test.YtfoimmnfpheoiaaZbb
import Derived.Deep.RegionHeld3
import Derived.Test.YtfoimmnfpheoiaaZba
import Derived.Test.YtfoimmnfpheoiaaZah
import Derived.Test.YtfoimmnfpheoiaaZaj
import Derived.Test.YtfoimmnfpheoiaaZad
namespace Go.Proofs.Ytfoimmnfpheoiaa
open Go.RowKit
set_option linter.unusedSimpArgs false
def lsF {α : Type} (d : α → Nat → D) (l : List α) : Nat → Nat → D := fun i => match l[i]? with
  | some x => d x
  | none => fun _ => .i 0
def Ls {α : Type} (n : Nat) (d : α → Nat → D) (l : List α) : D := .l n l.length (lsF d l)
theorem lsF_at {α : Type} {d : α → Nat → D} {l : List α} {i : Nat} (h : i < l.length) : lsF d l i = d l[i] := by
  unfold lsF
  rw [List.getElem?_eq_getElem h]
section
variable {w wr w1 : World} {n m : Nat} {f : Nat → Nat → D} {k : Nat} {B : Nat → Prop} {b off : Nat} {X : Nat → Nat → Nat → Prop} {i j : Nat}
end
end Go.Proofs.Ytfoimmnfpheoiaa
namespace Go.Proofs.Ytfoimmnfpheoiaa
open Go.RowKit
set_option linter.unusedSimpArgs false
theorem heap_keptD {w w' : World} {b : Nat} {o : Obj} (h : w.heap[b]? = some o) (hB : Below w.heap.size w w') : w'.heap[b]? = some o := by
  rw [hB.block b (Array.getElem?_eq_some_iff.1 h).1]; exact h
theorem heap_newD (w : World) (o : Obj) : (w.alloc o).heap[w.heap.size]? = some o := by
  show (w.heap.push o)[w.heap.size]? = _
  simp
theorem below_allocD (w : World) (o : Obj) : Below w.heap.size w (w.alloc o) := (Below.refl _ _).alloc (Nat.le_refl _) _
theorem size_allocD (w : World) (o : Obj) : (w.alloc o).heap.size = w.heap.size + 1 := by simp
def BoxD (ty : TypeId) (w W : World) (cs : Array Value) : Prop := W.heap[w.heap.size]? = some (.cells cs ty) ∧ Below w.heap.size w W
theorem boxD (ty : TypeId) (w : World) (cs : Array Value) : BoxD ty w (w.alloc (.cells cs ty)) cs := ⟨heap_newD _ _, below_allocD _ _⟩
theorem BoxD.later {ty : TypeId} {w W W' : World} {cs : Array Value} (h : BoxD ty w W cs) (hB : Below W.heap.size W W') : BoxD ty w W' cs := ⟨heap_keptD h.1 hB, h.2.trans (hB.mono h.2.size)⟩
theorem BoxD.drew {ty : TypeId} {w W : World} {cs : Array Value} (h : BoxD ty w W cs) : BoxD ty w W.drew cs := h.later (Below.refl _ _).drew
end Go.Proofs.Ytfoimmnfpheoiaa
namespace Go.Proofs.Ytfoimmnfpheoiaa
open Go.RowKit
set_option linter.unusedSimpArgs false
def dAtom (x : At) : Nat → D
  | 0 => .i x.k
  | 1 => .i x.n
  | _ => .s x.t
def dAtomS (l : List At) : D := Ls 3 dAtom l
end Go.Proofs.Ytfoimmnfpheoiaa
namespace Go.Proofs.Ytfoimmnfpheoiaa
open Go.RowKit
set_option linter.unusedSimpArgs false
def kindNo (kd : Int) (l : List At) : Bool := match l with
  | [] => false
  | x :: _ => x.k != kd
theorem kindNo_nil {kd : Int} {l : List At} (h : l.length = 0) : kindNo kd l = false := by
  cases l with
  | nil => rfl
  | cons x r => simp at h
theorem kindNo_at {kd : Int} {l : List At} (h : 0 < l.length) : kindNo kd l = (l[0].k != kd) := by
  cases l with
  | nil => simp at h
  | cons x r => rfl
structure BoxE (ty ty' : TypeId) (w W : World) (cs ds : Array Value) : Prop where
  a : W.heap[w.heap.size]? = some (.cells cs ty)
  b : W.heap[w.heap.size + 1]? = some (.cells ds ty')
  bel : Below w.heap.size w W
theorem boxE (ty ty' : TypeId) (w : World) (cs ds : Array Value) : BoxE ty ty' w ((w.alloc (.cells cs ty)).alloc (.cells ds ty')) cs ds := by
  refine ⟨heap_keptD (heap_newD _ _) (below_allocD _ _), ?_, (below_allocD _ _).trans ((below_allocD _ _).mono (by simp))⟩
  have h := heap_newD (w.alloc (.cells cs ty)) (.cells ds ty')
  rw [size_allocD] at h
  exact h
theorem BoxE.later {ty ty' : TypeId} {w W W' : World} {cs ds : Array Value} (h : BoxE ty ty' w W cs ds) (hB : Below W.heap.size W W') : BoxE ty ty' w W' cs ds := ⟨heap_keptD h.a hB, heap_keptD h.b hB, h.bel.trans (hB.mono h.bel.size)⟩
theorem BoxE.drew {ty ty' : TypeId} {w W : World} {cs ds : Array Value} (h : BoxE ty ty' w W cs ds) : BoxE ty ty' w W.drew cs ds := h.later (Below.refl _ _).drew
theorem Ats.head {w : World} {S : Nat} {a : Option Addr} {l : List At} (h : Ats w (· < S) a l) : l.length = 0 ∨ ∃ b off, ∃ q : Int, 0 < l.length ∧ a = some ⟨b, off, none⟩ ∧ (∀ kd, kindNo kd l = (q != kd)) ∧ ∀ W, Below S w W → W.cell? ⟨b, off, none⟩ = some (.int .i64 q) := by
  by_cases h0 : 0 < l.length
  · obtain ⟨b, off, e, -, -⟩ := h.item 0 h0
    refine .inr ⟨b, off, l[0].k, h0, e, fun kd => kindNo_at h0, fun W hW => ?_⟩
    have h' := h.below hW
    subst e
    have := (h'.three 0 h0).1
    rwa [Nat.zero_mul, Nat.add_zero] at this
  · exact .inl (by omega)
end Go.Proofs.Ytfoimmnfpheoiaa
namespace Go.Proofs.Ytfoimmnfpheoiaa
open Go.RowKit
set_option linter.unusedSimpArgs false
structure MutV where
  col : List UInt8
  fn : Int
  val : List At
end Go.Proofs.Ytfoimmnfpheoiaa
