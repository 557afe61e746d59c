/-
  DERIVED. GIVEN WITH THE SEED: THE CARDS: each row of YtiahlcfihlgdnaaGreatDoorRows.lean that lists a variable, with what it lists TIED to the program's text (the seventh form; the later family's looks); each row that meets fmt, with fmt's text TOLD by the authors' own Lean function (tested against real Go, not proved from fmt's source: count such statements apart). THE CARD IS WHAT COUNTS. Prove the row's statement (the work); the ties are given (YtiahlcfihlgdnaaGreatDoorTie.lean); close each card by the builder's one call (the guide's Derived/Test/ToyasCard.lean, 'card_holds'). Laid BY PROGRAM, IN A SANDBOX (cutbox-door.mjs). By AI agents, Wed Nov 11 2026. No macro, syntax, notation, axiom, sorry.
-/
import Derived.Test.YtiahlcfihlgdnaaGreatDoorRows
import GoSem.ClaimSeven
namespace Go.Proofs.YtiahlcfihlgdnaaGreatDoor
namespace Rows

/-- THE TIED CARD OF 'laws.FnExactRulesOk'. -/
def fnExactRulesOkCard : Claim7 := { stood := { row := fnExactRulesOkRow, standIns := [], harness := (true, "11b2726b264e04610816e859574dcc1b3a40aadd1ff866fdd63a899566491830"), looks := true }, kinds := [], alts := [], laidByText := true, laidKinds := [.data, .data, .data, .handle, .sentinel], laidTests := true, laidLooks := .later }
def FnExactRulesOkCardSaid : Prop := Claim7.holds Tryz.pinned (.plain (OpenSpec.ofChange fnExactRulesOkSpec)) fnExactRulesOkCard

/-- THE SECOND FORM's CARD OF 'laws.FnExactRulesOk'. -/
def fnExactRulesOkUptoCard : Claim7 := { stood := { row := fnExactRulesOkUptoRow, standIns := [], harness := (true, "11b2726b264e04610816e859574dcc1b3a40aadd1ff866fdd63a899566491830"), looks := true }, kinds := [], alts := [], laidByText := true, laidKinds := [.data, .data, .data, .handle, .sentinel], laidTests := true, laidLooks := .later }
def FnExactRulesOkUptoCardSaid : Prop := Claim7.holds Tryz.pinned (.plain (OpenSpec.upto fnExactRulesOkSpec)) fnExactRulesOkUptoCard
end Rows
end Go.Proofs.YtiahlcfihlgdnaaGreatDoor
