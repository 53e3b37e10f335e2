import Derived.Test.YtgegjniilocmnaaTo
import Derived.Deep.QuietTactic
import Derived.BigQuiet
import Derived.Deep.RegionWith
namespace Go.Proofs.Ytgegjniilocmnaa
open Go.RowKit

end Go.Proofs.Ytgegjniilocmnaa
