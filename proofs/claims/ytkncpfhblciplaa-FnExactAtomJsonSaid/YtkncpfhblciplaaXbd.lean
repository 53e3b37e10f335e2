import Derived.Test.YtkncpfhblciplaaXao
import Derived.Deep.CutRange
import Derived.Deep.RegionHeld3
namespace Go.Proofs.Ytkncpfhblciplaa
open Go.RowKit
theorem neq_selfK (c : Int) : (c != c) = false := by simp
end Go.Proofs.Ytkncpfhblciplaa
