/-
  DERIVED. GIVEN WITH THE SEED: THE CARDS: each row of YteipaaapimkfcaaDoorRows.lean that lists a variable, with what it lists TIED to the program's text (the seventh form; the later family's looks); each row that meets fmt, with fmt's text TOLD by the authors' own Lean function (tested against real Go, not proved from fmt's source: count such statements apart). THE CARD IS WHAT COUNTS. Prove the row's statement (the work); the ties are given (YteipaaapimkfcaaDoorTie.lean); close each card by the builder's one call (the guide's Derived/Test/ToyasCard.lean, 'card_holds'). Laid BY PROGRAM, IN A SANDBOX (cutbox-door.mjs). By AI agents, Wed Nov 11 2026. No macro, syntax, notation, axiom, sorry.
-/
import Derived.Test.YteipaaapimkfcaaDoorRows
import GoSem.ClaimSeven
namespace Go.Proofs.YteipaaapimkfcaaDoor
namespace Rows

/-- THE TIED CARD OF 'laws.FnExactMatchIs'. -/
def fnExactMatchIsCard : Claim7 := { stood := { row := fnExactMatchIsRow, standIns := [], harness := (true, "b52bc97b53ba137933189e3c4e994c0a29e4649cfa5d902ea5b8c661cbc6e05b"), looks := false }, kinds := [], alts := [], laidByText := true, laidKinds := [.sentinel], laidTests := true, laidLooks := .later }
def FnExactMatchIsCardSaid : Prop := Claim7.holds Tryd.pinned (.plain (OpenSpec.ofChange fnExactMatchIsSpec)) fnExactMatchIsCard

/-- THE TIED CARD OF 'laws.FnExactMatchLong'. -/
def fnExactMatchLongCard : Claim7 := { stood := { row := fnExactMatchLongRow, standIns := [], harness := (true, "b52bc97b53ba137933189e3c4e994c0a29e4649cfa5d902ea5b8c661cbc6e05b"), looks := false }, kinds := [], alts := [], laidByText := true, laidKinds := [.sentinel], laidTests := true, laidLooks := .later }
def FnExactMatchLongCardSaid : Prop := Claim7.holds Tryd.pinned (.plain (OpenSpec.ofChange fnExactMatchLongSpec)) fnExactMatchLongCard

/-- THE SECOND FORM's CARD OF 'laws.FnExactMatchIs'. -/
def fnExactMatchIsUptoCard : Claim7 := { stood := { row := fnExactMatchIsUptoRow, standIns := [], harness := (true, "b52bc97b53ba137933189e3c4e994c0a29e4649cfa5d902ea5b8c661cbc6e05b"), looks := false }, kinds := [], alts := [], laidByText := true, laidKinds := [.sentinel], laidTests := true, laidLooks := .later }
def FnExactMatchIsUptoCardSaid : Prop := Claim7.holds Tryd.pinned (.plain (OpenSpec.upto fnExactMatchIsSpec)) fnExactMatchIsUptoCard

/-- THE SECOND FORM's CARD OF 'laws.FnExactMatchLong'. -/
def fnExactMatchLongUptoCard : Claim7 := { stood := { row := fnExactMatchLongUptoRow, standIns := [], harness := (true, "b52bc97b53ba137933189e3c4e994c0a29e4649cfa5d902ea5b8c661cbc6e05b"), looks := false }, kinds := [], alts := [], laidByText := true, laidKinds := [.sentinel], laidTests := true, laidLooks := .later }
def FnExactMatchLongUptoCardSaid : Prop := Claim7.holds Tryd.pinned (.plain (OpenSpec.upto fnExactMatchLongSpec)) fnExactMatchLongUptoCard
end Rows
end Go.Proofs.YteipaaapimkfcaaDoor
