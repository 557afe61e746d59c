/-
  DERIVED. GIVEN WITH THE SEED: THE CARDS: each row of YtmgojhlfnbjodaaDoorRows.lean that lists a variable, with what it lists TIED to the program's text (the seventh form; the later family's looks); each row that meets fmt, with fmt's text TOLD by the authors' own Lean function (tested against real Go, not proved from fmt's source: count such statements apart). THE CARD IS WHAT COUNTS. Prove the row's statement (the work); the ties are given (YtmgojhlfnbjodaaDoorTie.lean); close each card by the builder's one call (the guide's Derived/Test/ToyasCard.lean, 'card_holds'). Laid BY PROGRAM, IN A SANDBOX (cutbox-door.mjs). By AI agents, Wed Nov 11 2026. No macro, syntax, notation, axiom, sorry.
-/
import Derived.Test.YtmgojhlfnbjodaaDoorRows
import GoSem.ClaimSeven
namespace Go.Proofs.YtmgojhlfnbjodaaDoor
namespace Rows

/-- THE TIED CARD OF 'laws.FnExactDfaOk'. -/
def fnExactDfaOkCard : Claim7 := { stood := { row := fnExactDfaOkRow, standIns := [], harness := (true, "6511fa5d76e09b0e8bcf7972664da1fb51cb4397ce99177890ed9ea553ac5950"), looks := false }, kinds := [], alts := [], laidByText := true, laidKinds := [.data], laidTests := true, laidLooks := .later }
def FnExactDfaOkCardSaid : Prop := Claim7.holds Tryd.pinned (.plain (OpenSpec.ofChange fnExactDfaOkSpec)) fnExactDfaOkCard

/-- THE TIED CARD OF 'laws.FnExactDfaNext'. -/
def fnExactDfaNextCard : Claim7 := { stood := { row := fnExactDfaNextRow, standIns := [], harness := (true, "6511fa5d76e09b0e8bcf7972664da1fb51cb4397ce99177890ed9ea553ac5950"), looks := false }, kinds := [], alts := [], laidByText := true, laidKinds := [.data], laidTests := true, laidLooks := .later }
def FnExactDfaNextCardSaid : Prop := Claim7.holds Tryd.pinned (.plain (OpenSpec.ofChange fnExactDfaNextSpec)) fnExactDfaNextCard

/-- THE TIED CARD OF 'laws.FnExactDfaRun'. -/
def fnExactDfaRunCard : Claim7 := { stood := { row := fnExactDfaRunRow, standIns := [], harness := (true, "6511fa5d76e09b0e8bcf7972664da1fb51cb4397ce99177890ed9ea553ac5950"), looks := false }, kinds := [], alts := [], laidByText := true, laidKinds := [.data], laidTests := true, laidLooks := .later }
def FnExactDfaRunCardSaid : Prop := Claim7.holds Tryd.pinned (.plain (OpenSpec.ofChange fnExactDfaRunSpec)) fnExactDfaRunCard

/-- THE TIED CARD OF 'laws.FnExactDfaRule'. -/
def fnExactDfaRuleCard : Claim7 := { stood := { row := fnExactDfaRuleRow, standIns := [], harness := (true, "6511fa5d76e09b0e8bcf7972664da1fb51cb4397ce99177890ed9ea553ac5950"), looks := false }, kinds := [], alts := [], laidByText := true, laidKinds := [.data], laidTests := true, laidLooks := .later }
def FnExactDfaRuleCardSaid : Prop := Claim7.holds Tryd.pinned (.plain (OpenSpec.ofChange fnExactDfaRuleSpec)) fnExactDfaRuleCard

/-- THE SECOND FORM's CARD OF 'laws.FnExactDfaOk'. -/
def fnExactDfaOkUptoCard : Claim7 := { stood := { row := fnExactDfaOkUptoRow, standIns := [], harness := (true, "6511fa5d76e09b0e8bcf7972664da1fb51cb4397ce99177890ed9ea553ac5950"), looks := false }, kinds := [], alts := [], laidByText := true, laidKinds := [.data], laidTests := true, laidLooks := .later }
def FnExactDfaOkUptoCardSaid : Prop := Claim7.holds Tryd.pinned (.plain (OpenSpec.upto fnExactDfaOkSpec)) fnExactDfaOkUptoCard

/-- THE SECOND FORM's CARD OF 'laws.FnExactDfaNext'. -/
def fnExactDfaNextUptoCard : Claim7 := { stood := { row := fnExactDfaNextUptoRow, standIns := [], harness := (true, "6511fa5d76e09b0e8bcf7972664da1fb51cb4397ce99177890ed9ea553ac5950"), looks := false }, kinds := [], alts := [], laidByText := true, laidKinds := [.data], laidTests := true, laidLooks := .later }
def FnExactDfaNextUptoCardSaid : Prop := Claim7.holds Tryd.pinned (.plain (OpenSpec.upto fnExactDfaNextSpec)) fnExactDfaNextUptoCard

/-- THE SECOND FORM's CARD OF 'laws.FnExactDfaRun'. -/
def fnExactDfaRunUptoCard : Claim7 := { stood := { row := fnExactDfaRunUptoRow, standIns := [], harness := (true, "6511fa5d76e09b0e8bcf7972664da1fb51cb4397ce99177890ed9ea553ac5950"), looks := false }, kinds := [], alts := [], laidByText := true, laidKinds := [.data], laidTests := true, laidLooks := .later }
def FnExactDfaRunUptoCardSaid : Prop := Claim7.holds Tryd.pinned (.plain (OpenSpec.upto fnExactDfaRunSpec)) fnExactDfaRunUptoCard

/-- THE SECOND FORM's CARD OF 'laws.FnExactDfaRule'. -/
def fnExactDfaRuleUptoCard : Claim7 := { stood := { row := fnExactDfaRuleUptoRow, standIns := [], harness := (true, "6511fa5d76e09b0e8bcf7972664da1fb51cb4397ce99177890ed9ea553ac5950"), looks := false }, kinds := [], alts := [], laidByText := true, laidKinds := [.data], laidTests := true, laidLooks := .later }
def FnExactDfaRuleUptoCardSaid : Prop := Claim7.holds Tryd.pinned (.plain (OpenSpec.upto fnExactDfaRuleSpec)) fnExactDfaRuleUptoCard
end Rows
end Go.Proofs.YtmgojhlfnbjodaaDoor
