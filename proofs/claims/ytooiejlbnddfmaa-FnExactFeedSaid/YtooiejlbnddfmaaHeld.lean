import Derived.Test.YtooiejlbnddfmaaMark4
namespace Go.Proofs.Ytooiejlbnddfmaa
open Go.RowKit
set_option linter.unusedSimpArgs false
/-- a value's marks, but for its own three -/
def mkT (j : J) (k : Nat) : J := ⟨j.k, j.n, j.t, marks j.keys.length k, mkL j.items (k + j.keys.length)⟩
def mnT (j : J) : Nat := j.keys.length + (j.items.map mn).sum

end Go.Proofs.Ytooiejlbnddfmaa
