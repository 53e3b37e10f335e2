import Derived.Test.YtjfkfeiohcfdaaaTo
import Derived.Deep.QuietTactic
import Derived.BigQuiet
import Derived.Deep.RegionWith
namespace Go.Proofs.Ytjfkfeiohcfdaaa
open Go.RowKit

end Go.Proofs.Ytjfkfeiohcfdaaa
