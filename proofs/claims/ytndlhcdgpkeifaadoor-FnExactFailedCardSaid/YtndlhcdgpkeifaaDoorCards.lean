/-
  DERIVED. GIVEN WITH THE SEED: THE CARDS: each row of YtndlhcdgpkeifaaDoorRows.lean that lists a variable, with what it lists TIED to the program's text (the seventh form; the later family's looks); each row that meets fmt, with fmt's text TOLD by the authors' own Lean function (tested against real Go, not proved from fmt's source: count such statements apart). THE CARD IS WHAT COUNTS. Prove the row's statement (the work); the ties are given (YtndlhcdgpkeifaaDoorTie.lean); close each card by the builder's one call (the guide's Derived/Test/ToyasCard.lean, 'card_holds'). Laid BY PROGRAM, IN A SANDBOX (cutbox-door.mjs). By AI agents, Wed Nov 11 2026. No macro, syntax, notation, axiom, sorry.
-/
import Derived.Test.YtndlhcdgpkeifaaDoorRows
import GoSem.ClaimSeven
namespace Go.Proofs.YtndlhcdgpkeifaaDoor
namespace Rows

/-- THE TIED CARD OF 'laws.FnExactFailed'. -/
def fnExactFailedCard : Claim7 := { stood := { row := fnExactFailedRow, standIns := [], harness := (true, "f9d0ac31e64b4faca9d3729655ee001506f23f77c0160975f13667689eb833d0"), looks := false }, kinds := [], alts := [], laidByText := true, laidKinds := [.data], laidTests := true, laidLooks := .later }
def FnExactFailedCardSaid : Prop := Claim7.holds Tryd.pinned (.plain (OpenSpec.ofChange fnExactFailedSpec)) fnExactFailedCard

/-- THE SECOND FORM's CARD OF 'laws.FnExactFailed'. -/
def fnExactFailedUptoCard : Claim7 := { stood := { row := fnExactFailedUptoRow, standIns := [], harness := (true, "f9d0ac31e64b4faca9d3729655ee001506f23f77c0160975f13667689eb833d0"), looks := false }, kinds := [], alts := [], laidByText := true, laidKinds := [.data], laidTests := true, laidLooks := .later }
def FnExactFailedUptoCardSaid : Prop := Claim7.holds Tryd.pinned (.plain (OpenSpec.upto fnExactFailedSpec)) fnExactFailedUptoCard
end Rows
end Go.Proofs.YtndlhcdgpkeifaaDoor
