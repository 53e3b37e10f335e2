import Derived.Test.YtponpcbedcihaaaTo
import Derived.Deep.QuietTactic
import Derived.BigQuiet
import Derived.Deep.RegionWith
namespace Go.Proofs.Ytponpcbedcihaaa
open Go.RowKit

end Go.Proofs.Ytponpcbedcihaaa
