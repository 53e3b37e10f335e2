import Derived.Test.YtkncpfhblciplaaXay
import Derived.Test.YtkncpfhblciplaaXaw
import Derived.Test.YtkncpfhblciplaaXbb
import Derived.Deep.CutRange
import Derived.BigQuiet
import Derived.Lib.Hide
namespace Go.Proofs.Ytkncpfhblciplaa
open Go.RowKit
set_option linter.unusedSimpArgs false
theorem cell_later {w W : World} {a : Addr} {v : Value} (hB : Below w.heap.size w W) (h : w.cell? a = some v) : W.cell? a = some v := by rw [World.cell?_of_block (w := w) (a := a) (hB.block _ (World.block_lt_of_cell? _ _ h))]; exact h
end Go.Proofs.Ytkncpfhblciplaa
