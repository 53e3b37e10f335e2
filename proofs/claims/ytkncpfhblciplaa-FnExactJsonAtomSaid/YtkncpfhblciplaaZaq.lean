import Derived.Test.YtkncpfhblciplaaZai
import Derived.Test.YtkncpfhblciplaaZao
import Derived.Test.YtkncpfhblciplaaZac
import Derived.Test.YtkncpfhblciplaaZap
import Derived.Deep.OwnRows
import Derived.Laws.IdiomStrings
import Derived.Deep.MidRow
import Derived.Deep.QuietTactic
import Derived.BigQuiet
import Derived.Deep.RegionWith
namespace Go.Proofs.Ytkncpfhblciplaa
open Go.RowKit
set_option linter.unusedSimpArgs false
def atZ : At := ⟨0, 0, []⟩
end Go.Proofs.Ytkncpfhblciplaa
