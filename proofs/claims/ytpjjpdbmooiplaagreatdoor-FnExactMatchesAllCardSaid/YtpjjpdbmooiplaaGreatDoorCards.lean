/-
  DERIVED. GIVEN WITH THE SEED: THE CARDS: each row of YtpjjpdbmooiplaaGreatDoorRows.lean that lists a variable, with what it lists TIED to the program's text (the seventh form; the later family's looks); each row that meets fmt, with fmt's text TOLD by the authors' own Lean function (tested against real Go, not proved from fmt's source: count such statements apart). THE CARD IS WHAT COUNTS. Prove the row's statement (the work); the ties are given (YtpjjpdbmooiplaaGreatDoorTie.lean); close each card by the builder's one call (the guide's Derived/Test/ToyasCard.lean, 'card_holds'). Laid BY PROGRAM, IN A SANDBOX (cutbox-door.mjs). By AI agents, Wed Nov 11 2026. No macro, syntax, notation, axiom, sorry.
-/
import Derived.Test.YtpjjpdbmooiplaaGreatDoorRows
import GoSem.ClaimSeven
namespace Go.Proofs.YtpjjpdbmooiplaaGreatDoor
namespace Rows

/-- THE TIED CARD OF 'laws.FnExactMatches'. -/
def fnExactMatchesCard : Claim7 := { stood := { row := fnExactMatchesRow, standIns := [], harness := (true, "1b53beea9c8284b37fc253148a71fe1a49c5a9b9e6f0c3fe6614b9747d79d158"), looks := false }, kinds := [], alts := [], laidByText := true, laidKinds := [.data], laidTests := true, laidLooks := .later }
def FnExactMatchesCardSaid : Prop := Claim7.holds Tryz.pinned (.plain (OpenSpec.ofChange fnExactMatchesSpec)) fnExactMatchesCard

/-- THE TIED CARD OF 'laws.FnExactMatchesAll'. -/
def fnExactMatchesAllCard : Claim7 := { stood := { row := fnExactMatchesAllRow, standIns := [], harness := (true, "1b53beea9c8284b37fc253148a71fe1a49c5a9b9e6f0c3fe6614b9747d79d158"), looks := false }, kinds := [], alts := [], laidByText := true, laidKinds := [.data], laidTests := true, laidLooks := .later }
def FnExactMatchesAllCardSaid : Prop := Claim7.holds Tryz.pinned (.plain (OpenSpec.ofChange fnExactMatchesAllSpec)) fnExactMatchesAllCard

/-- THE TIED CARD OF 'laws.FnExactSelectIds'. -/
def fnExactSelectIdsCard : Claim7 := { stood := { row := fnExactSelectIdsRow, standIns := [], harness := (true, "1b53beea9c8284b37fc253148a71fe1a49c5a9b9e6f0c3fe6614b9747d79d158"), looks := false }, kinds := [], alts := [], laidByText := true, laidKinds := [.data], laidTests := true, laidLooks := .later }
def FnExactSelectIdsCardSaid : Prop := Claim7.holds Tryz.pinned (.plain (OpenSpec.ofChange fnExactSelectIdsSpec)) fnExactSelectIdsCard

/-- THE SECOND FORM's CARD OF 'laws.FnExactMatches'. -/
def fnExactMatchesUptoCard : Claim7 := { stood := { row := fnExactMatchesUptoRow, standIns := [], harness := (true, "1b53beea9c8284b37fc253148a71fe1a49c5a9b9e6f0c3fe6614b9747d79d158"), looks := false }, kinds := [], alts := [], laidByText := true, laidKinds := [.data], laidTests := true, laidLooks := .later }
def FnExactMatchesUptoCardSaid : Prop := Claim7.holds Tryz.pinned (.plain (OpenSpec.upto fnExactMatchesSpec)) fnExactMatchesUptoCard

/-- THE SECOND FORM's CARD OF 'laws.FnExactMatchesAll'. -/
def fnExactMatchesAllUptoCard : Claim7 := { stood := { row := fnExactMatchesAllUptoRow, standIns := [], harness := (true, "1b53beea9c8284b37fc253148a71fe1a49c5a9b9e6f0c3fe6614b9747d79d158"), looks := false }, kinds := [], alts := [], laidByText := true, laidKinds := [.data], laidTests := true, laidLooks := .later }
def FnExactMatchesAllUptoCardSaid : Prop := Claim7.holds Tryz.pinned (.plain (OpenSpec.upto fnExactMatchesAllSpec)) fnExactMatchesAllUptoCard

/-- THE SECOND FORM's CARD OF 'laws.FnExactSelectIds'. -/
def fnExactSelectIdsUptoCard : Claim7 := { stood := { row := fnExactSelectIdsUptoRow, standIns := [], harness := (true, "1b53beea9c8284b37fc253148a71fe1a49c5a9b9e6f0c3fe6614b9747d79d158"), looks := false }, kinds := [], alts := [], laidByText := true, laidKinds := [.data], laidTests := true, laidLooks := .later }
def FnExactSelectIdsUptoCardSaid : Prop := Claim7.holds Tryz.pinned (.plain (OpenSpec.upto fnExactSelectIdsSpec)) fnExactSelectIdsUptoCard
end Rows
end Go.Proofs.YtpjjpdbmooiplaaGreatDoor
