import Derived.Test.YtlkkmafnjdbofaaTo
import Derived.Deep.QuietTactic
import Derived.BigQuiet
import Derived.Deep.RegionWith
namespace Go.Proofs.Ytlkkmafnjdbofaa
open Go.RowKit

end Go.Proofs.Ytlkkmafnjdbofaa
