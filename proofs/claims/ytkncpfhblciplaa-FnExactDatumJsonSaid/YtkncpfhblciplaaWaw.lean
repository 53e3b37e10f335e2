import Derived.Test.YtkncpfhblciplaaWav
namespace Go.Proofs.Ytkncpfhblciplaa
open Go.RowKit
set_option linter.unusedSimpArgs false
def fiveSet (w : World) (n : Nat) (u0 u1 u2 u3 u4 : Value) : World :=
  ((((w.setCell ⟨n + 1, 0, none⟩ u0).setCell ⟨n + 1, 1, none⟩ u1).setCell ⟨n + 1, 2, none⟩ u2).setCell ⟨n + 1, 3, none⟩ u3).setCell ⟨n + 1, 4, none⟩ u4
theorem five_heap (w : World) (n : Nat) (u0 u1 u2 u3 u4 : Value) (c : Nat) (hc : c ≠ n + 1) : (fiveSet w n u0 u1 u2 u3 u4).heap[c]? = w.heap[c]? := by
  unfold fiveSet
  rw [Below.heap_setCell _ _ _ _ hc, Below.heap_setCell _ _ _ _ hc, Below.heap_setCell _ _ _ _ hc, Below.heap_setCell _ _ _ _ hc, Below.heap_setCell _ _ _ _ hc]
theorem five_below {w w6 : World} {n : Nat} (h : Below n w w6) (u0 u1 u2 u3 u4 : Value) : Below n w (fiveSet w6 n u0 u1 u2 u3 u4) :=
  ((((h.setCell (by show n ≤ n + 1; omega) _).setCell (by show n ≤ n + 1; omega) _).setCell (by show n ≤ n + 1; omega) _).setCell (by show n ≤ n + 1; omega) _).setCell (by show n ≤ n + 1; omega) _
end Go.Proofs.Ytkncpfhblciplaa
