import Derived.Test.YtkncpfhblciplaaWbj
import Derived.Test.YtkncpfhblciplaaWan
import Derived.ArgAppend
import Derived.OwnWalk
import Derived.Test.YtkncpfhblciplaaWao
import Derived.Deep.CutRange
import Derived.Test.YtkncpfhblciplaaWbc
import Derived.Deep.RegionLaw
import Derived.Deep.RegionHeld3
import Derived.Lib.Hide
import Derived.Laws.CopyRow
import Derived.Lib.Overlaps
import Derived.Lib.AppendZerosOnto
namespace Go.Proofs.Ytkncpfhblciplaa
open Go.RowKit
set_option linter.unusedSimpArgs false
structure Sl where
  l : List At
  a : Option Addr
  c : Nat
def flat (s : List Sl) : List At := s.flatMap (·.l)
end Go.Proofs.Ytkncpfhblciplaa
