import Derived.Test.YtlaoockphljheaaTo
import Derived.Deep.QuietTactic
import Derived.BigQuiet
import Derived.Deep.RegionWith
namespace Go.Proofs.Ytlaoockphljheaa
open Go.RowKit

end Go.Proofs.Ytlaoockphljheaa
