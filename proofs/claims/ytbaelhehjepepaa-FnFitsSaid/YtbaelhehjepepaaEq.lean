import Derived.Test.YtbaelhehjepepaaTo
import Derived.Deep.QuietTactic
import Derived.BigQuiet
import Derived.Deep.RegionWith
namespace Go.Proofs.Ytbaelhehjepepaa
open Go.RowKit

end Go.Proofs.Ytbaelhehjepepaa
