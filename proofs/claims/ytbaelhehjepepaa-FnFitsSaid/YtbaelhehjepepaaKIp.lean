import Derived.Test.YtbaelhehjepepaaKIo
namespace Go.Proofs.Ytbaelhehjepepaa
open Go.RowKit
set_option linter.unusedSimpArgs false
end Go.Proofs.Ytbaelhehjepepaa
