/-
  DERIVED. GIVEN WITH THE SEED: THE CARDS: each row of YtfjaoiigdjpcfaaDoorRows.lean that lists a variable, with what it lists TIED to the program's text (the seventh form; the later family's looks); each row that meets fmt, with fmt's text TOLD by the authors' own Lean function (tested against real Go, not proved from fmt's source: count such statements apart). THE CARD IS WHAT COUNTS. Prove the row's statement (the work); the ties are given (YtfjaoiigdjpcfaaDoorTie.lean); close each card by the builder's one call (the guide's Derived/Test/ToyasCard.lean, 'card_holds'). Laid BY PROGRAM, IN A SANDBOX (cutbox-door.mjs). By AI agents, Wed Nov 11 2026. No macro, syntax, notation, axiom, sorry.
-/
import Derived.Test.YtfjaoiigdjpcfaaDoorRows
import GoSem.ClaimSeven
namespace Go.Proofs.YtfjaoiigdjpcfaaDoor
namespace Rows

/-- THE TIED CARD OF 'laws.FnExactMutWord'. -/
def fnExactMutWordCard : Claim7 := { stood := { row := fnExactMutWordRow, standIns := [], harness := (true, "7f8a0503265af51cd590d3fe6c876c6a5dea93fcc0e912439c57857fc1de92f6"), looks := false }, kinds := [], alts := [], laidByText := true, laidKinds := [.data], laidTests := true, laidLooks := .later }
def FnExactMutWordCardSaid : Prop := Claim7.holds Tryd.pinned (.plain (OpenSpec.ofChange fnExactMutWordSpec)) fnExactMutWordCard

/-- THE TIED CARD OF 'laws.FnExactMutOf'. -/
def fnExactMutOfCard : Claim7 := { stood := { row := fnExactMutOfRow, standIns := [], harness := (true, "7f8a0503265af51cd590d3fe6c876c6a5dea93fcc0e912439c57857fc1de92f6"), looks := false }, kinds := [], alts := [], laidByText := true, laidKinds := [.data], laidTests := true, laidLooks := .later }
def FnExactMutOfCardSaid : Prop := Claim7.holds Tryd.pinned (.plain (OpenSpec.ofChange fnExactMutOfSpec)) fnExactMutOfCard

/-- THE SECOND FORM's CARD OF 'laws.FnExactMutWord'. -/
def fnExactMutWordUptoCard : Claim7 := { stood := { row := fnExactMutWordUptoRow, standIns := [], harness := (true, "7f8a0503265af51cd590d3fe6c876c6a5dea93fcc0e912439c57857fc1de92f6"), looks := false }, kinds := [], alts := [], laidByText := true, laidKinds := [.data], laidTests := true, laidLooks := .later }
def FnExactMutWordUptoCardSaid : Prop := Claim7.holds Tryd.pinned (.plain (OpenSpec.upto fnExactMutWordSpec)) fnExactMutWordUptoCard

/-- THE SECOND FORM's CARD OF 'laws.FnExactMutOf'. -/
def fnExactMutOfUptoCard : Claim7 := { stood := { row := fnExactMutOfUptoRow, standIns := [], harness := (true, "7f8a0503265af51cd590d3fe6c876c6a5dea93fcc0e912439c57857fc1de92f6"), looks := false }, kinds := [], alts := [], laidByText := true, laidKinds := [.data], laidTests := true, laidLooks := .later }
def FnExactMutOfUptoCardSaid : Prop := Claim7.holds Tryd.pinned (.plain (OpenSpec.upto fnExactMutOfSpec)) fnExactMutOfUptoCard
end Rows
end Go.Proofs.YtfjaoiigdjpcfaaDoor
