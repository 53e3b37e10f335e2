import Derived.Test.YtenioffildinbaaZak
import Derived.Test.YtenioffildinbaaZad
import Derived.Test.YtenioffildinbaaZaa
import Derived.Deep.OwnRows
import Derived.Laws.IdiomStrings
import Derived.Deep.MidRow
import Derived.Deep.QuietTactic
import Derived.BigQuiet
import Derived.Deep.RegionWith
import Derived.Test.YtenioffildinbaaZan
import Derived.Lib.Hide
namespace Go.Proofs.Ytenioffildinbaa
open Go.RowKit
set_option linter.unusedSimpArgs false
def Cl.sz (c : Cl) : Nat := c.nm.length + c.rf.length
def kindB (c : Cl) : Bool :=
  if c.k = 1 then inB (-1000000000) c.lo 1000000000 && (inB (-1000000000) c.hi 1000000000 && (decide (c.lo ≤ c.hi) && (c.rf.isEmpty && !c.st)))
  else if c.k = 4 then (c.mn == 0) && ((c.lo == 0) && ((c.hi == 0) && nameB c.rf))
  else if c.k = 2 ∨ c.k = 3 then (c.lo == 0) && ((c.hi == 0) && (c.rf.isEmpty && !c.st))
  else false
def colB (c : Cl) : Bool := nameB c.nm && (inB 0 c.mn 1 && (inB 1 c.mx 8 && kindB c))
theorem name_empty : nameB [] = false := rfl
theorem colB_kind {c : Cl} (h : colB c = true) : 1 ≤ c.k ∧ c.k ≤ 4 := by
  unfold colB kindB at h
  by_cases h1 : c.k = 1
  · omega
  by_cases h4 : c.k = 4
  · omega
  by_cases h2 : c.k = 2 ∨ c.k = 3
  · omega
  · rw [if_neg h1, if_neg h4, if_neg h2] at h; simp at h
theorem heap_keptC {w w' : World} {b : Nat} {o : Obj} (h : w.heap[b]? = some o) (hB : Below w.heap.size w w') : w'.heap[b]? = some o := by
  rw [hB.block b (Array.getElem?_eq_some_iff.1 h).1]; exact h
theorem heap_newC (w : World) (o : Obj) : (w.alloc o).heap[w.heap.size]? = some o := by
  show (w.heap.push o)[w.heap.size]? = _
  simp
def BoxC (ty : TypeId) (w W : World) (c : Cl) : Prop := W.heap[w.heap.size]? = some (.cells #[.string ⟨c.nm.toArray⟩, .int .i64 c.k, .int .i64 c.mn, .int .i64 c.mx, .int .i64 c.lo, .int .i64 c.hi, .string ⟨c.rf.toArray⟩, .bool c.st] ty) ∧ Below w.heap.size w W
theorem BoxC.later {ty : TypeId} {w W W' : World} {c : Cl} (h : BoxC ty w W c) (hB : Below W.heap.size W W') : BoxC ty w W' c := ⟨heap_keptC h.1 hB, h.2.trans (hB.mono h.2.size)⟩
theorem boxC (ty : TypeId) (w : World) (c : Cl) : BoxC ty w (w.alloc (.cells #[.string ⟨c.nm.toArray⟩, .int .i64 c.k, .int .i64 c.mn, .int .i64 c.mx, .int .i64 c.lo, .int .i64 c.hi, .string ⟨c.rf.toArray⟩, .bool c.st] ty)) c := ⟨heap_newC _ _, (Below.refl _ _).alloc (Nat.le_refl _) _⟩
theorem BoxC.drew {ty : TypeId} {w W : World} {c : Cl} (h : BoxC ty w W c) : BoxC ty w W.drew c := h.later (Below.refl _ _).drew
theorem BoxC.drewN {ty : TypeId} {w W : World} {c : Cl} (h : BoxC ty w W c) (n : Nat) : BoxC ty w (W.drewN n) c := h.later (below_drewN (Below.refl _ _) n)
end Go.Proofs.Ytenioffildinbaa
