import Derived.Test.YtkjfefjkelckiaaZax
import Derived.ArgAppend
import Derived.OwnWalk
import Derived.Deep.CutRange
namespace Go.Proofs.Ytkjfefjkelckiaa
open Go.RowKit
set_option linter.unusedSimpArgs false
def AAns (w : World) (l : List At) (e : Ending) (w' : World) : Prop := ∃ a c, e = .returned (.slice a l.length c) ∧ OwnAts w' (fun b => w.heap.size ≤ b ∧ b < w'.heap.size) a l ∧ Below w.heap.size w w'
end Go.Proofs.Ytkjfefjkelckiaa
