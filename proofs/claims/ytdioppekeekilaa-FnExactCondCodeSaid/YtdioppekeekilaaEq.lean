import Derived.Test.YtdioppekeekilaaTo
import Derived.Deep.QuietTactic
import Derived.BigQuiet
import Derived.Deep.RegionWith
namespace Go.Proofs.Ytdioppekeekilaa
open Go.RowKit

end Go.Proofs.Ytdioppekeekilaa
