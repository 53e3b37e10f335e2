import Derived.Test.YtphdikbapmllnaaTo
import Derived.Deep.QuietTactic
import Derived.BigQuiet
import Derived.Deep.RegionWith
namespace Go.Proofs.Ytphdikbapmllnaa
open Go.RowKit

end Go.Proofs.Ytphdikbapmllnaa
