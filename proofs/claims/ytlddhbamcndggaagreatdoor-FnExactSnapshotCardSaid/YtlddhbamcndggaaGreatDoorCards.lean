/-
  DERIVED. GIVEN WITH THE SEED: THE CARDS: each row of YtlddhbamcndggaaGreatDoorRows.lean that lists a variable, with what it lists TIED to the program's text (the seventh form; the later family's looks); each row that meets fmt, with fmt's text TOLD by the authors' own Lean function (tested against real Go, not proved from fmt's source: count such statements apart). THE CARD IS WHAT COUNTS. Prove the row's statement (the work); the ties are given (YtlddhbamcndggaaGreatDoorTie.lean); close each card by the builder's one call (the guide's Derived/Test/ToyasCard.lean, 'card_holds'). Laid BY PROGRAM, IN A SANDBOX (cutbox-door.mjs). By AI agents, Wed Nov 11 2026. No macro, syntax, notation, axiom, sorry.
-/
import Derived.Test.YtlddhbamcndggaaGreatDoorRows
import GoSem.ClaimSeven
namespace Go.Proofs.YtlddhbamcndggaaGreatDoor
namespace Rows

/-- THE TIED CARD OF 'laws.FnExactSnapshot'. -/
def fnExactSnapshotCard : Claim7 := { stood := { row := fnExactSnapshotRow, standIns := [], harness := (true, "9be4d904f46726ed7a1d706832c3d4a5a8c757480031bba6dd01cc446e4d02b8"), looks := false }, kinds := [], alts := [], laidByText := true, laidKinds := [.data], laidTests := true, laidLooks := .later }
def FnExactSnapshotCardSaid : Prop := Claim7.holds Tryz.pinned (.plain (OpenSpec.ofChange fnExactSnapshotSpec)) fnExactSnapshotCard

/-- THE SECOND FORM's CARD OF 'laws.FnExactSnapshot'. -/
def fnExactSnapshotUptoCard : Claim7 := { stood := { row := fnExactSnapshotUptoRow, standIns := [], harness := (true, "9be4d904f46726ed7a1d706832c3d4a5a8c757480031bba6dd01cc446e4d02b8"), looks := false }, kinds := [], alts := [], laidByText := true, laidKinds := [.data], laidTests := true, laidLooks := .later }
def FnExactSnapshotUptoCardSaid : Prop := Claim7.holds Tryz.pinned (.plain (OpenSpec.upto fnExactSnapshotSpec)) fnExactSnapshotUptoCard
end Rows
end Go.Proofs.YtlddhbamcndggaaGreatDoor
