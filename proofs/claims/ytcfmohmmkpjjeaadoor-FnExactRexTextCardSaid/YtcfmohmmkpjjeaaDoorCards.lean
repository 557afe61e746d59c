/-
  DERIVED. GIVEN WITH THE SEED: THE CARDS: each row of YtcfmohmmkpjjeaaDoorRows.lean that lists a variable, with what it lists TIED to the program's text (the seventh form; the later family's looks); each row that meets fmt, with fmt's text TOLD by the authors' own Lean function (tested against real Go, not proved from fmt's source: count such statements apart). THE CARD IS WHAT COUNTS. Prove the row's statement (the work); the ties are given (YtcfmohmmkpjjeaaDoorTie.lean); close each card by the builder's one call (the guide's Derived/Test/ToyasCard.lean, 'card_holds'). Laid BY PROGRAM, IN A SANDBOX (cutbox-door.mjs). By AI agents, Wed Nov 11 2026. No macro, syntax, notation, axiom, sorry.
-/
import Derived.Test.YtcfmohmmkpjjeaaDoorRows
import GoSem.ClaimSeven
namespace Go.Proofs.YtcfmohmmkpjjeaaDoor
namespace Rows

/-- THE TIED CARD OF 'laws.FnExactRexText'. -/
def fnExactRexTextCard : Claim7 := { stood := { row := fnExactRexTextRow, standIns := [], harness := (true, "3c700a7791a8874373cec35e35b998efb344f6bc5e64e658d77d11fcd73918b4"), looks := false }, kinds := [], alts := [], laidByText := true, laidKinds := [.data, .data, .data, .sentinel], laidTests := true, laidLooks := .later }
def FnExactRexTextCardSaid : Prop := Claim7.holds Tryd.pinned (.plain (OpenSpec.ofChange fnExactRexTextSpec)) fnExactRexTextCard

/-- THE SECOND FORM's CARD OF 'laws.FnExactRexText'. -/
def fnExactRexTextUptoCard : Claim7 := { stood := { row := fnExactRexTextUptoRow, standIns := [], harness := (true, "3c700a7791a8874373cec35e35b998efb344f6bc5e64e658d77d11fcd73918b4"), looks := false }, kinds := [], alts := [], laidByText := true, laidKinds := [.data, .data, .data, .sentinel], laidTests := true, laidLooks := .later }
def FnExactRexTextUptoCardSaid : Prop := Claim7.holds Tryd.pinned (.plain (OpenSpec.upto fnExactRexTextSpec)) fnExactRexTextUptoCard
end Rows
end Go.Proofs.YtcfmohmmkpjjeaaDoor
