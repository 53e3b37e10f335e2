import Derived.Test.YtkncpfhblciplaaWbn
namespace Go.Proofs.Ytkncpfhblciplaa
open Go.RowKit
set_option linter.unusedSimpArgs false
structure ArB (w W : World) (ac rc : Array Value) : Prop where
  ba : W.heap[w.heap.size]? = some (.cells ac 31)
  br : W.heap[w.heap.size + 1]? = some (.cells rc 28)
  bel : Below w.heap.size w W
theorem ArB.first (w : World) (ac rc : Array Value) : ArB w ((w.alloc (.cells ac 31)).alloc (.cells rc 28)) ac rc := by
  obtain ⟨b0, b1, -, hB⟩ := two (w4 := ((w.alloc (.cells ac 31)).alloc (.cells rc 28))) (w := w) (Below.refl _ _)
  exact ⟨b0, b1, hB⟩
theorem ArB.later {w W W' : World} {ac rc : Array Value} (h : ArB w W ac rc) (hB : Below W.heap.size W W') : ArB w W' ac rc := ⟨heap_kept2 h.ba hB, heap_kept2 h.br hB, h.bel.trans (hB.mono h.bel.size)⟩
theorem ArB.drew {w W : World} {ac rc : Array Value} (h : ArB w W ac rc) : ArB w W.drew ac rc := h.later (Below.refl _ _).drew
end Go.Proofs.Ytkncpfhblciplaa
