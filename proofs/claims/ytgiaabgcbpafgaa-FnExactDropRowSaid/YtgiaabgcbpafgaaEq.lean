import Derived.Test.YtgiaabgcbpafgaaTo
import Derived.Deep.QuietTactic
import Derived.BigQuiet
import Derived.Deep.RegionWith
namespace Go.Proofs.Ytgiaabgcbpafgaa
open Go.RowKit

end Go.Proofs.Ytgiaabgcbpafgaa
