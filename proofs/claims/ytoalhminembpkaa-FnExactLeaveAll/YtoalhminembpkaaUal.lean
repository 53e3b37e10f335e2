import Derived.Test.YtoalhminembpkaaUak
import Derived.Test.YtoalhminembpkaaUah
namespace Go.Proofs.Ytoalhminembpkaa
open Go.RowKit Go.Deep
set_option linter.unusedSimpArgs false
theorem cellsRInt : Try.prog.cellsOf 3 = 1 := by kernel_rfl
theorem cellsRString : Try.prog.cellsOf 9 = 1 := by kernel_rfl
section
variable {H : Type} {enc : TypeId × Value → H} {W : World} {sp : Nat → Bool} {held : Bool}
end
end Go.Proofs.Ytoalhminembpkaa
