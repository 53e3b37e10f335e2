/-
  DERIVED. GIVEN WITH THE SEED: THE CARDS: each row of YtgcblpjimhbhaaaDoorRows.lean that lists a variable, with what it lists TIED to the program's text (the seventh form; the later family's looks); each row that meets fmt, with fmt's text TOLD by the authors' own Lean function (tested against real Go, not proved from fmt's source: count such statements apart). THE CARD IS WHAT COUNTS. Prove the row's statement (the work); the ties are given (YtgcblpjimhbhaaaDoorTie.lean); close each card by the builder's one call (the guide's Derived/Test/ToyasCard.lean, 'card_holds'). Laid BY PROGRAM, IN A SANDBOX (cutbox-door.mjs). By AI agents, Wed Nov 11 2026. No macro, syntax, notation, axiom, sorry.
-/
import Derived.Test.YtgcblpjimhbhaaaDoorRows
import GoSem.ClaimSeven
namespace Go.Proofs.YtgcblpjimhbhaaaDoor
namespace Rows

/-- THE TIED CARD OF 'laws.FnExactFuncWord'. -/
def fnExactFuncWordCard : Claim7 := { stood := { row := fnExactFuncWordRow, standIns := [], harness := (true, "e909b2d17485aaea0dbd17d54463852283cfbec5799e278cf2b7377764235f82"), looks := false }, kinds := [], alts := [], laidByText := true, laidKinds := [.data], laidTests := true, laidLooks := .later }
def FnExactFuncWordCardSaid : Prop := Claim7.holds Tryd.pinned (.plain (OpenSpec.ofChange fnExactFuncWordSpec)) fnExactFuncWordCard

/-- THE TIED CARD OF 'laws.FnExactFuncOf'. -/
def fnExactFuncOfCard : Claim7 := { stood := { row := fnExactFuncOfRow, standIns := [], harness := (true, "e909b2d17485aaea0dbd17d54463852283cfbec5799e278cf2b7377764235f82"), looks := false }, kinds := [], alts := [], laidByText := true, laidKinds := [.data], laidTests := true, laidLooks := .later }
def FnExactFuncOfCardSaid : Prop := Claim7.holds Tryd.pinned (.plain (OpenSpec.ofChange fnExactFuncOfSpec)) fnExactFuncOfCard

/-- THE SECOND FORM's CARD OF 'laws.FnExactFuncWord'. -/
def fnExactFuncWordUptoCard : Claim7 := { stood := { row := fnExactFuncWordUptoRow, standIns := [], harness := (true, "e909b2d17485aaea0dbd17d54463852283cfbec5799e278cf2b7377764235f82"), looks := false }, kinds := [], alts := [], laidByText := true, laidKinds := [.data], laidTests := true, laidLooks := .later }
def FnExactFuncWordUptoCardSaid : Prop := Claim7.holds Tryd.pinned (.plain (OpenSpec.upto fnExactFuncWordSpec)) fnExactFuncWordUptoCard

/-- THE SECOND FORM's CARD OF 'laws.FnExactFuncOf'. -/
def fnExactFuncOfUptoCard : Claim7 := { stood := { row := fnExactFuncOfUptoRow, standIns := [], harness := (true, "e909b2d17485aaea0dbd17d54463852283cfbec5799e278cf2b7377764235f82"), looks := false }, kinds := [], alts := [], laidByText := true, laidKinds := [.data], laidTests := true, laidLooks := .later }
def FnExactFuncOfUptoCardSaid : Prop := Claim7.holds Tryd.pinned (.plain (OpenSpec.upto fnExactFuncOfSpec)) fnExactFuncOfUptoCard
end Rows
end Go.Proofs.YtgcblpjimhbhaaaDoor
