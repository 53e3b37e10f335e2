import Derived.Test.YtkncpfhblciplaaXai
import Derived.Test.YtkncpfhblciplaaXao
import Derived.Test.YtkncpfhblciplaaXax
namespace Go.Proofs.Ytkncpfhblciplaa
open Go.RowKit
set_option linter.unusedSimpArgs false
def uuidW : List UInt8 := [117, 117, 105, 100]
end Go.Proofs.Ytkncpfhblciplaa
