import Derived.Test.YtoalhminembpkaaUal
import Derived.Test.YtoalhminembpkaaUai
namespace Go.Proofs.Ytoalhminembpkaa
open Go.RowKit Go.Deep
set_option linter.unusedSimpArgs false
theorem cellsRIntS : Try.prog.cellsOf 46 = 1 := by kernel_rfl
section
variable {H : Type} {enc : TypeId × Value → H} {W : World} {sp : Nat → Bool} {held : Bool}
theorem rdIntS {fuel : Nat} {cs : List Value} {x : DataW H × List MemPlace} (h : DataW.trod enc Try.prog W 0 sp held fuel 46 cs = some x) :
    ∃ (l : List Int) (a : Option Addr) (c : Nat), cs = [.slice a l.length c] ∧ (dIntS l).le maxLen ∧ Rd W (· < W.heap.size) (dIntS l) (.slice a l.length c) :=
  rdLs (by omega) (by omega) Try.underlying46 cellsRInt (fun fuel cs x h => by obtain ⟨s, rfl, -, hs⟩ := DataW.trod_int Try.underlying3 h; exact ⟨s, rdT_one hs rfl⟩) h
end
end Go.Proofs.Ytoalhminembpkaa
