import Derived.Test.YtoalhminembpkaaUbc
import Derived.Test.YtoalhminembpkaaUah
import Derived.Laws.CopyRow
import Derived.Lib.AppendZerosOnto
import Derived.Deep.RegionLaw
import Derived.Lib.Overlaps
namespace Go.Proofs.Ytoalhminembpkaa
open Go.RowKit
set_option linter.unusedSimpArgs false
theorem frm_below {w w' : World} {F : Nat → Prop} (h : Below w.heap.size w w') : Frm F w w' := ⟨h.os, h.tape, h.output, h.size, fun b hb _ => h.block b hb⟩
end Go.Proofs.Ytoalhminembpkaa
