import Derived.Test.YtkncpfhblciplaaZau
import Derived.Deep.RegionHeld3
import Derived.Test.YtkncpfhblciplaaZav
import Derived.Deep.CutRange
namespace Go.Proofs.Ytkncpfhblciplaa
open Go.RowKit
set_option linter.unusedSimpArgs false
theorem heap_new' (w : World) (o : Obj) {g : Nat} (h : g = w.heap.size) : (w.alloc o).heap[g]? = some o := by
  subst h
  show (w.heap.push o)[w.heap.size]? = some o
  simp
theorem RJ.cells {w : World} {j : J} {B : Nat → Prop} {cs : List Value} (h : RJ w B j cs) : ∃ ka kc ia ic, cs = [.int .i64 j.k, .int .i64 j.n, .string ⟨j.t.toArray⟩, .slice ka j.keys.length kc, .slice ia j.items.length ic] := by
  rw [RJ_eq] at h
  obtain ⟨ka, kc, ia, ic, e, -⟩ := h
  exact ⟨ka, kc, ia, ic, e⟩
variable {w W : World} {j : J} {S p g2 gk c' cap : Nat} {box : Array Value} {a' : Option Addr} {vi : Value} {arr : Array Value}
end Go.Proofs.Ytkncpfhblciplaa
