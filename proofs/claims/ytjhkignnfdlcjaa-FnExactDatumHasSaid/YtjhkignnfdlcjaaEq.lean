import Derived.Test.YtjhkignnfdlcjaaTo
import Derived.Deep.QuietTactic
import Derived.BigQuiet
import Derived.Deep.RegionWith
namespace Go.Proofs.Ytjhkignnfdlcjaa
open Go.RowKit

end Go.Proofs.Ytjhkignnfdlcjaa
