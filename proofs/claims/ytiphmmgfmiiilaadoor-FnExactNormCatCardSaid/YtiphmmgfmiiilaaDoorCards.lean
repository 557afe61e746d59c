/-
  DERIVED. GIVEN WITH THE SEED: THE CARDS: each row of YtiphmmgfmiiilaaDoorRows.lean that lists a variable, with what it lists TIED to the program's text (the seventh form; the later family's looks); each row that meets fmt, with fmt's text TOLD by the authors' own Lean function (tested against real Go, not proved from fmt's source: count such statements apart). THE CARD IS WHAT COUNTS. Prove the row's statement (the work); the ties are given (YtiphmmgfmiiilaaDoorTie.lean); close each card by the builder's one call (the guide's Derived/Test/ToyasCard.lean, 'card_holds'). Laid BY PROGRAM, IN A SANDBOX (cutbox-door.mjs). By AI agents, Wed Nov 11 2026. No macro, syntax, notation, axiom, sorry.
-/
import Derived.Test.YtiphmmgfmiiilaaDoorRows
import GoSem.ClaimSeven
namespace Go.Proofs.YtiphmmgfmiiilaaDoor
namespace Rows

/-- THE TIED CARD OF 'laws.FnExactNormCat'. -/
def fnExactNormCatCard : Claim7 := { stood := { row := fnExactNormCatRow, standIns := [], harness := (true, "b6f2d04ba1591fc698017ef467a965a9a15f23ddc5e480b050d0f72a75c0389b"), looks := false }, kinds := [], alts := [], laidByText := true, laidKinds := [.sentinel], laidTests := true, laidLooks := .later }
def FnExactNormCatCardSaid : Prop := Claim7.holds Tryd.pinned (.plain (OpenSpec.ofChange fnExactNormCatSpec)) fnExactNormCatCard

/-- THE SECOND FORM's CARD OF 'laws.FnExactNormCat'. -/
def fnExactNormCatUptoCard : Claim7 := { stood := { row := fnExactNormCatUptoRow, standIns := [], harness := (true, "b6f2d04ba1591fc698017ef467a965a9a15f23ddc5e480b050d0f72a75c0389b"), looks := false }, kinds := [], alts := [], laidByText := true, laidKinds := [.sentinel], laidTests := true, laidLooks := .later }
def FnExactNormCatUptoCardSaid : Prop := Claim7.holds Tryd.pinned (.plain (OpenSpec.upto fnExactNormCatSpec)) fnExactNormCatUptoCard
end Rows
end Go.Proofs.YtiphmmgfmiiilaaDoor
