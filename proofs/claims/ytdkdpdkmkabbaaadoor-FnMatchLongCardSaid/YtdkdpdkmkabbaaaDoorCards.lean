/-
  DERIVED. GIVEN WITH THE SEED: THE CARDS: each row of YtdkdpdkmkabbaaaDoorRows.lean that lists a variable, with what it lists TIED to the program's text (the seventh form; the later family's looks); each row that meets fmt, with fmt's text TOLD by the authors' own Lean function (tested against real Go, not proved from fmt's source: count such statements apart). THE CARD IS WHAT COUNTS. Prove the row's statement (the work); the ties are given (YtdkdpdkmkabbaaaDoorTie.lean); close each card by the builder's one call (the guide's Derived/Test/ToyasCard.lean, 'card_holds'). Laid BY PROGRAM, IN A SANDBOX (cutbox-door.mjs). By AI agents, Wed Nov 11 2026. No macro, syntax, notation, axiom, sorry.
-/
import Derived.Test.YtdkdpdkmkabbaaaDoorRows
import GoSem.ClaimSeven
namespace Go.Proofs.YtdkdpdkmkabbaaaDoor
namespace Rows

/-- THE TIED CARD OF 'laws.FnMatchLong'. -/
def fnMatchLongCard : Claim7 := { stood := { row := fnMatchLongRow, standIns := [], harness := (true, "b18a743e86033750960e37832a04284d9e147453bac24da826af62619feddfdd"), looks := false }, kinds := [], alts := [], laidByText := true, laidKinds := [.sentinel], laidTests := true, laidLooks := .later }
def FnMatchLongCardSaid : Prop := Claim7.holds Tryd.pinned (.plain (OpenSpec.ofChange fnMatchLongSpec)) fnMatchLongCard

/-- THE TIED CARD OF 'laws.FnMatchEnds'. -/
def fnMatchEndsCard : Claim7 := { stood := { row := fnMatchEndsRow, standIns := [], harness := (true, "b18a743e86033750960e37832a04284d9e147453bac24da826af62619feddfdd"), looks := false }, kinds := [], alts := [], laidByText := true, laidKinds := [.sentinel], laidTests := true, laidLooks := .later }
def FnMatchEndsCardSaid : Prop := Claim7.holds Tryd.pinned (.plain (OpenSpec.ofChange fnMatchEndsSpec)) fnMatchEndsCard

/-- THE SECOND FORM's CARD OF 'laws.FnMatchLong'. -/
def fnMatchLongUptoCard : Claim7 := { stood := { row := fnMatchLongUptoRow, standIns := [], harness := (true, "b18a743e86033750960e37832a04284d9e147453bac24da826af62619feddfdd"), looks := false }, kinds := [], alts := [], laidByText := true, laidKinds := [.sentinel], laidTests := true, laidLooks := .later }
def FnMatchLongUptoCardSaid : Prop := Claim7.holds Tryd.pinned (.plain (OpenSpec.upto fnMatchLongSpec)) fnMatchLongUptoCard

/-- THE SECOND FORM's CARD OF 'laws.FnMatchEnds'. -/
def fnMatchEndsUptoCard : Claim7 := { stood := { row := fnMatchEndsUptoRow, standIns := [], harness := (true, "b18a743e86033750960e37832a04284d9e147453bac24da826af62619feddfdd"), looks := false }, kinds := [], alts := [], laidByText := true, laidKinds := [.sentinel], laidTests := true, laidLooks := .later }
def FnMatchEndsUptoCardSaid : Prop := Claim7.holds Tryd.pinned (.plain (OpenSpec.upto fnMatchEndsSpec)) fnMatchEndsUptoCard
end Rows
end Go.Proofs.YtdkdpdkmkabbaaaDoor
