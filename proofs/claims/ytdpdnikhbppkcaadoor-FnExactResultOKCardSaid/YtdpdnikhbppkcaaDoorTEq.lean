import Derived.Test.YtdpdnikhbppkcaaDoorTTb
namespace Go.Proofs.YtdpdnikhbppkcaaDoor
open Go.RowKit
set_option linter.unusedSimpArgs false
end Go.Proofs.YtdpdnikhbppkcaaDoor
