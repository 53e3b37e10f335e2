/-
  DERIVED. GIVEN WITH THE SEED: THE CARDS: each row of YtgpoigkfoliflaaGreatDoorRows.lean that lists a variable, with what it lists TIED to the program's text (the seventh form; the later family's looks); each row that meets fmt, with fmt's text TOLD by the authors' own Lean function (tested against real Go, not proved from fmt's source: count such statements apart). THE CARD IS WHAT COUNTS. Prove the row's statement (the work); the ties are given (YtgpoigkfoliflaaGreatDoorTie.lean); close each card by the builder's one call (the guide's Derived/Test/ToyasCard.lean, 'card_holds'). Laid BY PROGRAM, IN A SANDBOX (cutbox-door.mjs). By AI agents, Wed Nov 11 2026. No macro, syntax, notation, axiom, sorry.
-/
import Derived.Test.YtgpoigkfoliflaaGreatDoorRows
import GoSem.ClaimSeven
namespace Go.Proofs.YtgpoigkfoliflaaGreatDoor
namespace Rows

/-- THE TIED CARD OF 'laws.FnMuts'. -/
def fnMutsCard : Claim7 := { stood := { row := fnMutsRow, standIns := [], harness := (true, "ef3421344d7219e2cbd01be55f3478a60f0c98fa9ed2699183a0b85e4794b29a"), looks := false }, kinds := [], alts := [], laidByText := true, laidKinds := [.data], laidTests := true, laidLooks := .later }
def FnMutsCardSaid : Prop := Claim7.holds Tryz.pinned (.plain (OpenSpec.ofChange fnMutsSpec)) fnMutsCard

/-- THE SECOND FORM's CARD OF 'laws.FnMuts'. -/
def fnMutsUptoCard : Claim7 := { stood := { row := fnMutsUptoRow, standIns := [], harness := (true, "ef3421344d7219e2cbd01be55f3478a60f0c98fa9ed2699183a0b85e4794b29a"), looks := false }, kinds := [], alts := [], laidByText := true, laidKinds := [.data], laidTests := true, laidLooks := .later }
def FnMutsUptoCardSaid : Prop := Claim7.holds Tryz.pinned (.plain (OpenSpec.upto fnMutsSpec)) fnMutsUptoCard
end Rows
end Go.Proofs.YtgpoigkfoliflaaGreatDoor
