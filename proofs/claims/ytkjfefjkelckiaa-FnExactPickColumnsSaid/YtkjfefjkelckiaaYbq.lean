import Derived.Test.YtkjfefjkelckiaaYaq
import Derived.ArgAppend
import Derived.OwnWalk
import Derived.Test.YtkjfefjkelckiaaYav
import Derived.Test.YtkjfefjkelckiaaYaw
import Derived.Deep.RegionLaw
import Derived.Deep.RegionHeld3
import Derived.Lib.Hide
import Derived.Test.YtkjfefjkelckiaaYba
import Derived.Laws.CopyRow
import Derived.Lib.Overlaps
import Derived.Lib.AppendZerosOnto
namespace Go.Proofs.Ytkjfefjkelckiaa
open Go.RowKit
set_option linter.unusedSimpArgs false
def posTo (l : List At) (x : At) : Nat → Nat
  | 0 => 0
  | k + 1 => if 0 < cmpA (l.getD k atZ) x then posTo l x k else k + 1
def posA (l : List At) (x : At) : Nat := posTo l x l.length
noncomputable def putL (l : List At) (x : At) : List At := if hasB l x then l else l.take (posA l x) ++ [x] ++ l.drop (posA l x)
end Go.Proofs.Ytkjfefjkelckiaa
namespace Go.Proofs.Ytkjfefjkelckiaa
open Go.RowKit
set_option linter.unusedSimpArgs false
def insA (l : List At) (i : Nat) (x : At) : List At := l.take i ++ [x] ++ l.drop i
end Go.Proofs.Ytkjfefjkelckiaa
