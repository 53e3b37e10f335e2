import Derived.Test.YthakmdkaciopnaaTo
import Derived.Deep.QuietTactic
import Derived.BigQuiet
import Derived.Deep.RegionWith
namespace Go.Proofs.Ythakmdkaciopnaa
open Go.RowKit

end Go.Proofs.Ythakmdkaciopnaa
