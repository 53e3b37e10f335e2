import Derived.Test.YtenioffildinbaaZag
import Derived.Test.YtenioffildinbaaZan
import Derived.Test.YtenioffildinbaaZbd
namespace Go.Proofs.Ytenioffildinbaa
open Go.RowKit
set_option linter.unusedSimpArgs false
theorem le_text {l : List (List UInt8)} {K : Nat} (h : (dStringS l).le K) {k : Nat} (hk : k < l.length) : l[k].length ≤ K := (Ls_le.1 h).2.2 k hk 0 (by omega)
end Go.Proofs.Ytenioffildinbaa
