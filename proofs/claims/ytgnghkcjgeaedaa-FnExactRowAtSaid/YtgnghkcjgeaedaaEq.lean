import Derived.Test.YtgnghkcjgeaedaaTo
import Derived.Deep.QuietTactic
import Derived.BigQuiet
import Derived.Deep.RegionWith
namespace Go.Proofs.Ytgnghkcjgeaedaa
open Go.RowKit

end Go.Proofs.Ytgnghkcjgeaedaa
