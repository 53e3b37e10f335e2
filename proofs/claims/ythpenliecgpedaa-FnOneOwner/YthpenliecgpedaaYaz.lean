import Derived.Test.YthpenliecgpedaaYay
import Derived.Test.YthpenliecgpedaaYag
import Derived.Laws.CopyRow
import Derived.Lib.AppendZerosOnto
import Derived.Deep.RegionLaw
import Derived.Lib.Overlaps
namespace Go.Proofs.Ythpenliecgpedaa
open Go.RowKit
set_option linter.unusedSimpArgs false
theorem frm_below {w w' : World} {F : Nat → Prop} (h : Below w.heap.size w w') : Frm F w w' := ⟨h.os, h.tape, h.output, h.size, fun b hb _ => h.block b hb⟩
def insCK (cs : List Value) (i : Nat) (us : List Value) : List Value := cs.take (i * 2) ++ us ++ cs.drop (i * 2)
end Go.Proofs.Ythpenliecgpedaa
