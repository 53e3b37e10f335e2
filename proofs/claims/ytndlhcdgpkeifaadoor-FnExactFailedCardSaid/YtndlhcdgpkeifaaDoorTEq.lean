import Derived.Test.YtndlhcdgpkeifaaDoorTTb
namespace Go.Proofs.YtndlhcdgpkeifaaDoor
open Go.RowKit
set_option linter.unusedSimpArgs false
end Go.Proofs.YtndlhcdgpkeifaaDoor
