import Derived.Test.YthpenliecgpedaaZaf
namespace Go.Proofs.Ythpenliecgpedaa
open Go.RowKit
set_option linter.unusedSimpArgs false
def cString (x : List UInt8) : Nat → D := fun _ => .s x
def dStringS (l : List (List UInt8)) : D := Ls 1 cString l
end Go.Proofs.Ythpenliecgpedaa
