import Derived.Test.YtgegjniilocmnaaDStP
import Derived.Test.YtgegjniilocmnaaSpec
import Derived.Test.YtgegjniilocmnaaDCmp
import Derived.Deep.RegionHeld3
import Derived.Deep.QuietTactic
namespace Go.Proofs.Ytgegjniilocmnaa
open Go.RowKit
set_option linter.unusedSimpArgs false
end Go.Proofs.Ytgegjniilocmnaa
