import Derived.Test.YtphkfgddkngcfaaTo
import Derived.Deep.QuietTactic
import Derived.BigQuiet
import Derived.Deep.RegionWith
namespace Go.Proofs.Ytphkfgddkngcfaa
open Go.RowKit

end Go.Proofs.Ytphkfgddkngcfaa
