import Derived.Test.YtndlhcdgpkeifaaDoorDReR
import Derived.Test.YtndlhcdgpkeifaaDoorDRsA
namespace Go.Proofs.YtndlhcdgpkeifaaDoor
open Go.RowKit Go.Deep
set_option linter.unusedSimpArgs false
section
variable {H : Type} {enc : TypeId × Value → H} {W : World} {sp : Nat → Bool} {held : Bool}
theorem rdResultS {fuel : Nat} {cs : List Value} {x : DataW H × List MemPlace} (h : DataW.trod enc Tryd.prog W 0 sp held fuel 22 cs = some x) :
    ∃ (l : List ResV) (a : Option Addr) (c : Nat), cs = [.slice a l.length c] ∧ (dResultS l).le maxLen ∧ Rd W (· < W.heap.size) (dResultS l) (.slice a l.length c) :=
  rdLs (by omega) (by omega) Tryd.underlying22 cellsRResult (fun fuel cs x h => rdResult fuel cs x h) h
end
end Go.Proofs.YtndlhcdgpkeifaaDoor
