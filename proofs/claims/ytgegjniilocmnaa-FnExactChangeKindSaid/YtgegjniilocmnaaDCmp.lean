import Derived.Test.YtgegjniilocmnaaSz
import Derived.BigQuiet
import Derived.Deep.RegionWith
namespace Go.Proofs.Ytgegjniilocmnaa
open Go.RowKit
set_option linter.unusedSimpArgs false
end Go.Proofs.Ytgegjniilocmnaa
