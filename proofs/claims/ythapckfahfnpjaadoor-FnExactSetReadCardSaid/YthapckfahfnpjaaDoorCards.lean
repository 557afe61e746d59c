/-
  DERIVED. GIVEN WITH THE SEED: THE CARDS: each row of YthapckfahfnpjaaDoorRows.lean that lists a variable, with what it lists TIED to the program's text (the seventh form; the later family's looks); each row that meets fmt, with fmt's text TOLD by the authors' own Lean function (tested against real Go, not proved from fmt's source: count such statements apart). THE CARD IS WHAT COUNTS. Prove the row's statement (the work); the ties are given (YthapckfahfnpjaaDoorTie.lean); close each card by the builder's one call (the guide's Derived/Test/ToyasCard.lean, 'card_holds'). Laid BY PROGRAM, IN A SANDBOX (cutbox-door.mjs). By AI agents, Wed Nov 11 2026. No macro, syntax, notation, axiom, sorry.
-/
import Derived.Test.YthapckfahfnpjaaDoorRows
import GoSem.ClaimSeven
namespace Go.Proofs.YthapckfahfnpjaaDoor
namespace Rows

/-- THE TIED CARD OF 'laws.FnExactSetRead'. -/
def fnExactSetReadCard : Claim7 := { stood := { row := fnExactSetReadRow, standIns := [], harness := (true, "04555153ba41774759abc34bf232a6bcb396612bddcd32ee6c1f91c5c4c059c8"), looks := true }, kinds := [], alts := [], laidByText := true, laidKinds := [.data, .data, .data, .data, .sentinel, .sentinel, .pinned], laidTests := true, laidLooks := .later }
def FnExactSetReadCardSaid : Prop := Claim7.holds Tryd.pinned (.plain (OpenSpec.ofChange fnExactSetReadSpec)) fnExactSetReadCard

/-- THE SECOND FORM's CARD OF 'laws.FnExactSetRead'. -/
def fnExactSetReadUptoCard : Claim7 := { stood := { row := fnExactSetReadUptoRow, standIns := [], harness := (true, "04555153ba41774759abc34bf232a6bcb396612bddcd32ee6c1f91c5c4c059c8"), looks := true }, kinds := [], alts := [], laidByText := true, laidKinds := [.data, .data, .data, .data, .sentinel, .sentinel, .pinned], laidTests := true, laidLooks := .later }
def FnExactSetReadUptoCardSaid : Prop := Claim7.holds Tryd.pinned (.plain (OpenSpec.upto fnExactSetReadSpec)) fnExactSetReadUptoCard
end Rows
end Go.Proofs.YthapckfahfnpjaaDoor
