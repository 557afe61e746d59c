/-
  DERIVED. GIVEN WITH THE SEED: THE CARDS: each row of YtplpdikkkbiacaaGreatDoorRows.lean that lists a variable, with what it lists TIED to the program's text (the seventh form; the later family's looks); each row that meets fmt, with fmt's text TOLD by the authors' own Lean function (tested against real Go, not proved from fmt's source: count such statements apart). THE CARD IS WHAT COUNTS. Prove the row's statement (the work); the ties are given (YtplpdikkkbiacaaGreatDoorTie.lean); close each card by the builder's one call (the guide's Derived/Test/ToyasCard.lean, 'card_holds'). Laid BY PROGRAM, IN A SANDBOX (cutbox-door.mjs). By AI agents, Wed Nov 11 2026. No macro, syntax, notation, axiom, sorry.
-/
import Derived.Test.YtplpdikkkbiacaaGreatDoorRows
import GoSem.ClaimSeven
namespace Go.Proofs.YtplpdikkkbiacaaGreatDoor
namespace Rows

/-- THE TIED CARD OF 'laws.FnExactLexMeans'. -/
def fnExactLexMeansCard : Claim7 := { stood := { row := fnExactLexMeansRow, standIns := [], harness := (true, "101a36a5725b91175ada629ae1a131623c8a7191ca54e71696194df0c2560a80"), looks := true }, kinds := [], alts := [], laidByText := true, laidKinds := [.data, .data, .data, .handle, .sentinel], laidTests := true, laidLooks := .later }
def FnExactLexMeansCardSaid : Prop := Claim7.holds Tryz.pinned (.plain (OpenSpec.ofChange fnExactLexMeansSpec)) fnExactLexMeansCard

/-- THE SECOND FORM's CARD OF 'laws.FnExactLexMeans'. -/
def fnExactLexMeansUptoCard : Claim7 := { stood := { row := fnExactLexMeansUptoRow, standIns := [], harness := (true, "101a36a5725b91175ada629ae1a131623c8a7191ca54e71696194df0c2560a80"), looks := true }, kinds := [], alts := [], laidByText := true, laidKinds := [.data, .data, .data, .handle, .sentinel], laidTests := true, laidLooks := .later }
def FnExactLexMeansUptoCardSaid : Prop := Claim7.holds Tryz.pinned (.plain (OpenSpec.upto fnExactLexMeansSpec)) fnExactLexMeansUptoCard
end Rows
end Go.Proofs.YtplpdikkkbiacaaGreatDoor
