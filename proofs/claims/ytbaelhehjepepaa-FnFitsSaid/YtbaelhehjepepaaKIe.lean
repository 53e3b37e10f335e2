import Derived.Test.YtbaelhehjepepaaKIc
import Derived.Test.YtbaelhehjepepaaKLs
namespace Go.Proofs.Ytbaelhehjepepaa
open Go.RowKit
set_option linter.unusedSimpArgs false
end Go.Proofs.Ytbaelhehjepepaa
