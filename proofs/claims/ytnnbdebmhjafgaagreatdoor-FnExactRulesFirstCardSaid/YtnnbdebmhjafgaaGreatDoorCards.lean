/-
  DERIVED. GIVEN WITH THE SEED: THE CARDS: each row of YtnnbdebmhjafgaaGreatDoorRows.lean that lists a variable, with what it lists TIED to the program's text (the seventh form; the later family's looks); each row that meets fmt, with fmt's text TOLD by the authors' own Lean function (tested against real Go, not proved from fmt's source: count such statements apart). THE CARD IS WHAT COUNTS. Prove the row's statement (the work); the ties are given (YtnnbdebmhjafgaaGreatDoorTie.lean); close each card by the builder's one call (the guide's Derived/Test/ToyasCard.lean, 'card_holds'). Laid BY PROGRAM, IN A SANDBOX (cutbox-door.mjs). By AI agents, Wed Nov 11 2026. No macro, syntax, notation, axiom, sorry.
-/
import Derived.Test.YtnnbdebmhjafgaaGreatDoorRows
import GoSem.ClaimSeven
namespace Go.Proofs.YtnnbdebmhjafgaaGreatDoor
namespace Rows

/-- THE TIED CARD OF 'laws.FnExactRulesFirst'. -/
def fnExactRulesFirstCard : Claim7 := { stood := { row := fnExactRulesFirstRow, standIns := [], harness := (true, "a49ce86d4ef611e156f4b4c2265250bd96e40bde8a62d638d40fd0895dd94ec9"), looks := true }, kinds := [], alts := [], laidByText := true, laidKinds := [.data, .data, .data, .handle, .sentinel], laidTests := true, laidLooks := .later }
def FnExactRulesFirstCardSaid : Prop := Claim7.holds Tryz.pinned (.plain (OpenSpec.ofChange fnExactRulesFirstSpec)) fnExactRulesFirstCard

/-- THE SECOND FORM's CARD OF 'laws.FnExactRulesFirst'. -/
def fnExactRulesFirstUptoCard : Claim7 := { stood := { row := fnExactRulesFirstUptoRow, standIns := [], harness := (true, "a49ce86d4ef611e156f4b4c2265250bd96e40bde8a62d638d40fd0895dd94ec9"), looks := true }, kinds := [], alts := [], laidByText := true, laidKinds := [.data, .data, .data, .handle, .sentinel], laidTests := true, laidLooks := .later }
def FnExactRulesFirstUptoCardSaid : Prop := Claim7.holds Tryz.pinned (.plain (OpenSpec.upto fnExactRulesFirstSpec)) fnExactRulesFirstUptoCard
end Rows
end Go.Proofs.YtnnbdebmhjafgaaGreatDoor
