/-
  DERIVED. GIVEN WITH THE SEED: THE CARDS: each row of YtdpdnikhbppkcaaDoorRows.lean that lists a variable, with what it lists TIED to the program's text (the seventh form; the later family's looks); each row that meets fmt, with fmt's text TOLD by the authors' own Lean function (tested against real Go, not proved from fmt's source: count such statements apart). THE CARD IS WHAT COUNTS. Prove the row's statement (the work); the ties are given (YtdpdnikhbppkcaaDoorTie.lean); close each card by the builder's one call (the guide's Derived/Test/ToyasCard.lean, 'card_holds'). Laid BY PROGRAM, IN A SANDBOX (cutbox-door.mjs). By AI agents, Wed Nov 11 2026. No macro, syntax, notation, axiom, sorry.
-/
import Derived.Test.YtdpdnikhbppkcaaDoorRows
import GoSem.ClaimSeven
namespace Go.Proofs.YtdpdnikhbppkcaaDoor
namespace Rows

/-- THE TIED CARD OF 'laws.FnExactResultOK'. -/
def fnExactResultOKCard : Claim7 := { stood := { row := fnExactResultOKRow, standIns := [], harness := (true, "6df63b5666917a824b2f3e511606ec84bb306adb4da9bb361cae43c0873f748e"), looks := false }, kinds := [], alts := [], laidByText := true, laidKinds := [.data], laidTests := true, laidLooks := .later }
def FnExactResultOKCardSaid : Prop := Claim7.holds Tryd.pinned (.plain (OpenSpec.ofChange fnExactResultOKSpec)) fnExactResultOKCard

/-- THE SECOND FORM's CARD OF 'laws.FnExactResultOK'. -/
def fnExactResultOKUptoCard : Claim7 := { stood := { row := fnExactResultOKUptoRow, standIns := [], harness := (true, "6df63b5666917a824b2f3e511606ec84bb306adb4da9bb361cae43c0873f748e"), looks := false }, kinds := [], alts := [], laidByText := true, laidKinds := [.data], laidTests := true, laidLooks := .later }
def FnExactResultOKUptoCardSaid : Prop := Claim7.holds Tryd.pinned (.plain (OpenSpec.upto fnExactResultOKSpec)) fnExactResultOKUptoCard
end Rows
end Go.Proofs.YtdpdnikhbppkcaaDoor
