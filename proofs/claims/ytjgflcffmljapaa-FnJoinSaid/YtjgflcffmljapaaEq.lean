import Derived.Test.YtjgflcffmljapaaTo
import Derived.Deep.QuietTactic
import Derived.BigQuiet
import Derived.Deep.RegionWith
namespace Go.Proofs.Ytjgflcffmljapaa
open Go.RowKit

end Go.Proofs.Ytjgflcffmljapaa
