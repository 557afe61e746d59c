/-
  DERIVED. GIVEN WITH THE SEED: THE CARDS: each row of YtolddecfibdblaaDoorRows.lean that lists a variable, with what it lists TIED to the program's text (the seventh form; the later family's looks); each row that meets fmt, with fmt's text TOLD by the authors' own Lean function (tested against real Go, not proved from fmt's source: count such statements apart). THE CARD IS WHAT COUNTS. Prove the row's statement (the work); the ties are given (YtolddecfibdblaaDoorTie.lean); close each card by the builder's one call (the guide's Derived/Test/ToyasCard.lean, 'card_holds'). Laid BY PROGRAM, IN A SANDBOX (cutbox-door.mjs). By AI agents, Wed Nov 11 2026. No macro, syntax, notation, axiom, sorry.
-/
import Derived.Test.YtolddecfibdblaaDoorRows
import GoSem.ClaimSeven
namespace Go.Proofs.YtolddecfibdblaaDoor
namespace Rows

/-- THE TIED CARD OF 'laws.FnExactDfaRun'. -/
def fnExactDfaRunCard : Claim7 := { stood := { row := fnExactDfaRunRow, standIns := [], harness := (true, "e3a0f123c03a7ff3d320169f8242b067c6e66a71f86638c2ca9f6012c78be451"), looks := false }, kinds := [], alts := [], laidByText := true, laidKinds := [.data], laidTests := true, laidLooks := .later }
def FnExactDfaRunCardSaid : Prop := Claim7.holds Tryd.pinned (.plain (OpenSpec.ofChange fnExactDfaRunSpec)) fnExactDfaRunCard

/-- THE TIED CARD OF 'laws.FnExactDfaRule'. -/
def fnExactDfaRuleCard : Claim7 := { stood := { row := fnExactDfaRuleRow, standIns := [], harness := (true, "e3a0f123c03a7ff3d320169f8242b067c6e66a71f86638c2ca9f6012c78be451"), looks := false }, kinds := [], alts := [], laidByText := true, laidKinds := [.data], laidTests := true, laidLooks := .later }
def FnExactDfaRuleCardSaid : Prop := Claim7.holds Tryd.pinned (.plain (OpenSpec.ofChange fnExactDfaRuleSpec)) fnExactDfaRuleCard

/-- THE TIED CARD OF 'laws.FnExactLexAt'. -/
def fnExactLexAtCard : Claim7 := { stood := { row := fnExactLexAtRow, standIns := [], harness := (true, "e3a0f123c03a7ff3d320169f8242b067c6e66a71f86638c2ca9f6012c78be451"), looks := false }, kinds := [], alts := [], laidByText := true, laidKinds := [.data], laidTests := true, laidLooks := .later }
def FnExactLexAtCardSaid : Prop := Claim7.holds Tryd.pinned (.plain (OpenSpec.ofChange fnExactLexAtSpec)) fnExactLexAtCard

/-- THE TIED CARD OF 'laws.FnExactLexRun'. -/
def fnExactLexRunCard : Claim7 := { stood := { row := fnExactLexRunRow, standIns := [], harness := (true, "e3a0f123c03a7ff3d320169f8242b067c6e66a71f86638c2ca9f6012c78be451"), looks := false }, kinds := [], alts := [], laidByText := true, laidKinds := [.data], laidTests := true, laidLooks := .later }
def FnExactLexRunCardSaid : Prop := Claim7.holds Tryd.pinned (.plain (OpenSpec.ofChange fnExactLexRunSpec)) fnExactLexRunCard

/-- THE SECOND FORM's CARD OF 'laws.FnExactDfaRun'. -/
def fnExactDfaRunUptoCard : Claim7 := { stood := { row := fnExactDfaRunUptoRow, standIns := [], harness := (true, "e3a0f123c03a7ff3d320169f8242b067c6e66a71f86638c2ca9f6012c78be451"), looks := false }, kinds := [], alts := [], laidByText := true, laidKinds := [.data], laidTests := true, laidLooks := .later }
def FnExactDfaRunUptoCardSaid : Prop := Claim7.holds Tryd.pinned (.plain (OpenSpec.upto fnExactDfaRunSpec)) fnExactDfaRunUptoCard

/-- THE SECOND FORM's CARD OF 'laws.FnExactDfaRule'. -/
def fnExactDfaRuleUptoCard : Claim7 := { stood := { row := fnExactDfaRuleUptoRow, standIns := [], harness := (true, "e3a0f123c03a7ff3d320169f8242b067c6e66a71f86638c2ca9f6012c78be451"), looks := false }, kinds := [], alts := [], laidByText := true, laidKinds := [.data], laidTests := true, laidLooks := .later }
def FnExactDfaRuleUptoCardSaid : Prop := Claim7.holds Tryd.pinned (.plain (OpenSpec.upto fnExactDfaRuleSpec)) fnExactDfaRuleUptoCard

/-- THE SECOND FORM's CARD OF 'laws.FnExactLexAt'. -/
def fnExactLexAtUptoCard : Claim7 := { stood := { row := fnExactLexAtUptoRow, standIns := [], harness := (true, "e3a0f123c03a7ff3d320169f8242b067c6e66a71f86638c2ca9f6012c78be451"), looks := false }, kinds := [], alts := [], laidByText := true, laidKinds := [.data], laidTests := true, laidLooks := .later }
def FnExactLexAtUptoCardSaid : Prop := Claim7.holds Tryd.pinned (.plain (OpenSpec.upto fnExactLexAtSpec)) fnExactLexAtUptoCard

/-- THE SECOND FORM's CARD OF 'laws.FnExactLexRun'. -/
def fnExactLexRunUptoCard : Claim7 := { stood := { row := fnExactLexRunUptoRow, standIns := [], harness := (true, "e3a0f123c03a7ff3d320169f8242b067c6e66a71f86638c2ca9f6012c78be451"), looks := false }, kinds := [], alts := [], laidByText := true, laidKinds := [.data], laidTests := true, laidLooks := .later }
def FnExactLexRunUptoCardSaid : Prop := Claim7.holds Tryd.pinned (.plain (OpenSpec.upto fnExactLexRunSpec)) fnExactLexRunUptoCard
end Rows
end Go.Proofs.YtolddecfibdblaaDoor
