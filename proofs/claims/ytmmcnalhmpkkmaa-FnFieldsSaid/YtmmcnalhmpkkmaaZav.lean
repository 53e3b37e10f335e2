import Derived.Test.YtmmcnalhmpkkmaaZau
import Derived.Laws.AppendOwn
import Derived.Test.YtmmcnalhmpkkmaaZap
import Derived.Test.YtmmcnalhmpkkmaaZad
namespace Go.Proofs.Ytmmcnalhmpkkmaa
open Go.RowKit
set_option linter.unusedSimpArgs false
theorem heap_kept0 {w w' : World} {b : Nat} {o : Obj} (h : w.heap[b]? = some o) (hB : Below w.heap.size w w') : w'.heap[b]? = some o := by
  rw [hB.block b (Array.getElem?_eq_some_iff.1 h).1]; exact h
end Go.Proofs.Ytmmcnalhmpkkmaa
