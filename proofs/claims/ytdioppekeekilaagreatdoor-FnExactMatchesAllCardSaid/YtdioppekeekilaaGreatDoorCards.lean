/-
  DERIVED. GIVEN WITH THE SEED: THE CARDS: each row of YtdioppekeekilaaGreatDoorRows.lean that lists a variable, with what it lists TIED to the program's text (the seventh form; the later family's looks); each row that meets fmt, with fmt's text TOLD by the authors' own Lean function (tested against real Go, not proved from fmt's source: count such statements apart). THE CARD IS WHAT COUNTS. Prove the row's statement (the work); the ties are given (YtdioppekeekilaaGreatDoorTie.lean); close each card by the builder's one call (the guide's Derived/Test/ToyasCard.lean, 'card_holds'). Laid BY PROGRAM, IN A SANDBOX (cutbox-door.mjs). By AI agents, Wed Nov 11 2026. No macro, syntax, notation, axiom, sorry.
-/
import Derived.Test.YtdioppekeekilaaGreatDoorRows
import GoSem.ClaimSeven
namespace Go.Proofs.YtdioppekeekilaaGreatDoor
namespace Rows

/-- THE TIED CARD OF 'laws.FnExactMatches'. -/
def fnExactMatchesCard : Claim7 := { stood := { row := fnExactMatchesRow, standIns := [], harness := (true, "992671c17270bd35986edfbda59c2cbeeebed762b9322693260fdf8d20089377"), looks := false }, kinds := [], alts := [], laidByText := true, laidKinds := [.data], laidTests := true, laidLooks := .later }
def FnExactMatchesCardSaid : Prop := Claim7.holds Tryz.pinned (.plain (OpenSpec.ofChange fnExactMatchesSpec)) fnExactMatchesCard

/-- THE TIED CARD OF 'laws.FnExactMatchesAll'. -/
def fnExactMatchesAllCard : Claim7 := { stood := { row := fnExactMatchesAllRow, standIns := [], harness := (true, "992671c17270bd35986edfbda59c2cbeeebed762b9322693260fdf8d20089377"), looks := false }, kinds := [], alts := [], laidByText := true, laidKinds := [.data], laidTests := true, laidLooks := .later }
def FnExactMatchesAllCardSaid : Prop := Claim7.holds Tryz.pinned (.plain (OpenSpec.ofChange fnExactMatchesAllSpec)) fnExactMatchesAllCard

/-- THE SECOND FORM's CARD OF 'laws.FnExactMatches'. -/
def fnExactMatchesUptoCard : Claim7 := { stood := { row := fnExactMatchesUptoRow, standIns := [], harness := (true, "992671c17270bd35986edfbda59c2cbeeebed762b9322693260fdf8d20089377"), looks := false }, kinds := [], alts := [], laidByText := true, laidKinds := [.data], laidTests := true, laidLooks := .later }
def FnExactMatchesUptoCardSaid : Prop := Claim7.holds Tryz.pinned (.plain (OpenSpec.upto fnExactMatchesSpec)) fnExactMatchesUptoCard

/-- THE SECOND FORM's CARD OF 'laws.FnExactMatchesAll'. -/
def fnExactMatchesAllUptoCard : Claim7 := { stood := { row := fnExactMatchesAllUptoRow, standIns := [], harness := (true, "992671c17270bd35986edfbda59c2cbeeebed762b9322693260fdf8d20089377"), looks := false }, kinds := [], alts := [], laidByText := true, laidKinds := [.data], laidTests := true, laidLooks := .later }
def FnExactMatchesAllUptoCardSaid : Prop := Claim7.holds Tryz.pinned (.plain (OpenSpec.upto fnExactMatchesAllSpec)) fnExactMatchesAllUptoCard
end Rows
end Go.Proofs.YtdioppekeekilaaGreatDoor
