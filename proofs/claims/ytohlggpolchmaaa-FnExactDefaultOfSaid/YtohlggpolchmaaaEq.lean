import Derived.Test.YtohlggpolchmaaaTo
import Derived.Deep.QuietTactic
import Derived.BigQuiet
import Derived.Deep.RegionWith
namespace Go.Proofs.Ytohlggpolchmaaa
open Go.RowKit

end Go.Proofs.Ytohlggpolchmaaa
