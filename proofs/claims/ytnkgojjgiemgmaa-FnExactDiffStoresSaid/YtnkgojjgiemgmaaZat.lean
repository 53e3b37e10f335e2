import Derived.Test.YtnkgojjgiemgmaaZai
namespace Go.Proofs.Ytnkgojjgiemgmaa
open Go.RowKit
set_option linter.unusedSimpArgs false
def cInt (x : Int) : Nat → D := fun _ => .i x
def dIntS (l : List Int) : D := Ls 1 cInt l
end Go.Proofs.Ytnkgojjgiemgmaa
