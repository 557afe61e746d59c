/-
  DERIVED. GIVEN WITH THE SEED: THE CARDS: each row of YtjpmdbaalhieoaaDoorRows.lean that lists a variable, with what it lists TIED to the program's text (the seventh form; the later family's looks); each row that meets fmt, with fmt's text TOLD by the authors' own Lean function (tested against real Go, not proved from fmt's source: count such statements apart). THE CARD IS WHAT COUNTS. Prove the row's statement (the work); the ties are given (YtjpmdbaalhieoaaDoorTie.lean); close each card by the builder's one call (the guide's Derived/Test/ToyasCard.lean, 'card_holds'). Laid BY PROGRAM, IN A SANDBOX (cutbox-door.mjs). By AI agents, Wed Nov 11 2026. No macro, syntax, notation, axiom, sorry.
-/
import Derived.Test.YtjpmdbaalhieoaaDoorRows
import GoSem.ClaimSeven
namespace Go.Proofs.YtjpmdbaalhieoaaDoor
namespace Rows

/-- THE TIED CARD OF 'laws.FnExactSetParts'. -/
def fnExactSetPartsCard : Claim7 := { stood := { row := fnExactSetPartsRow, standIns := [], harness := (true, "9a262cca8fce19de3c7c0af733664557583122b073fa8b061de31123133d394c"), looks := false }, kinds := [], alts := [], laidByText := true, laidKinds := [.data], laidTests := true, laidLooks := .later }
def FnExactSetPartsCardSaid : Prop := Claim7.holds Tryd.pinned (.plain (OpenSpec.ofChange fnExactSetPartsSpec)) fnExactSetPartsCard

/-- THE SECOND FORM's CARD OF 'laws.FnExactSetParts'. -/
def fnExactSetPartsUptoCard : Claim7 := { stood := { row := fnExactSetPartsUptoRow, standIns := [], harness := (true, "9a262cca8fce19de3c7c0af733664557583122b073fa8b061de31123133d394c"), looks := false }, kinds := [], alts := [], laidByText := true, laidKinds := [.data], laidTests := true, laidLooks := .later }
def FnExactSetPartsUptoCardSaid : Prop := Claim7.holds Tryd.pinned (.plain (OpenSpec.upto fnExactSetPartsSpec)) fnExactSetPartsUptoCard
end Rows
end Go.Proofs.YtjpmdbaalhieoaaDoor
