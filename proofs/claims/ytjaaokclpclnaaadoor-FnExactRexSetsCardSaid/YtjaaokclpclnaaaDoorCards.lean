/-
  DERIVED. GIVEN WITH THE SEED: THE CARDS: each row of YtjaaokclpclnaaaDoorRows.lean that lists a variable, with what it lists TIED to the program's text (the seventh form; the later family's looks); each row that meets fmt, with fmt's text TOLD by the authors' own Lean function (tested against real Go, not proved from fmt's source: count such statements apart). THE CARD IS WHAT COUNTS. Prove the row's statement (the work); the ties are given (YtjaaokclpclnaaaDoorTie.lean); close each card by the builder's one call (the guide's Derived/Test/ToyasCard.lean, 'card_holds'). Laid BY PROGRAM, IN A SANDBOX (cutbox-door.mjs). By AI agents, Wed Nov 11 2026. No macro, syntax, notation, axiom, sorry.
-/
import Derived.Test.YtjaaokclpclnaaaDoorRows
import GoSem.ClaimSeven
namespace Go.Proofs.YtjaaokclpclnaaaDoor
namespace Rows

/-- THE TIED CARD OF 'laws.FnExactRexOk'. -/
def fnExactRexOkCard : Claim7 := { stood := { row := fnExactRexOkRow, standIns := [], harness := (true, "1be28ae9f19554b4622e49a81d26b754bc476acb08367ef2d55bcb72698b5450"), looks := false }, kinds := [], alts := [], laidByText := true, laidKinds := [.sentinel], laidTests := true, laidLooks := .later }
def FnExactRexOkCardSaid : Prop := Claim7.holds Tryd.pinned (.plain (OpenSpec.ofChange fnExactRexOkSpec)) fnExactRexOkCard

/-- THE TIED CARD OF 'laws.FnExactRexMany'. -/
def fnExactRexManyCard : Claim7 := { stood := { row := fnExactRexManyRow, standIns := [], harness := (true, "1be28ae9f19554b4622e49a81d26b754bc476acb08367ef2d55bcb72698b5450"), looks := false }, kinds := [], alts := [], laidByText := true, laidKinds := [.sentinel], laidTests := true, laidLooks := .later }
def FnExactRexManyCardSaid : Prop := Claim7.holds Tryd.pinned (.plain (OpenSpec.ofChange fnExactRexManySpec)) fnExactRexManyCard

/-- THE TIED CARD OF 'laws.FnExactRexNull'. -/
def fnExactRexNullCard : Claim7 := { stood := { row := fnExactRexNullRow, standIns := [], harness := (true, "1be28ae9f19554b4622e49a81d26b754bc476acb08367ef2d55bcb72698b5450"), looks := false }, kinds := [], alts := [], laidByText := true, laidKinds := [.sentinel], laidTests := true, laidLooks := .later }
def FnExactRexNullCardSaid : Prop := Claim7.holds Tryd.pinned (.plain (OpenSpec.ofChange fnExactRexNullSpec)) fnExactRexNullCard

/-- THE TIED CARD OF 'laws.FnExactRexSets'. -/
def fnExactRexSetsCard : Claim7 := { stood := { row := fnExactRexSetsRow, standIns := [], harness := (true, "1be28ae9f19554b4622e49a81d26b754bc476acb08367ef2d55bcb72698b5450"), looks := false }, kinds := [], alts := [], laidByText := true, laidKinds := [.sentinel], laidTests := true, laidLooks := .later }
def FnExactRexSetsCardSaid : Prop := Claim7.holds Tryd.pinned (.plain (OpenSpec.ofChange fnExactRexSetsSpec)) fnExactRexSetsCard

/-- THE TIED CARD OF 'laws.FnExactRexText'. -/
def fnExactRexTextCard : Claim7 := { stood := { row := fnExactRexTextRow, standIns := [], harness := (true, "1be28ae9f19554b4622e49a81d26b754bc476acb08367ef2d55bcb72698b5450"), looks := false }, kinds := [], alts := [], laidByText := true, laidKinds := [.data, .data, .data, .sentinel], laidTests := true, laidLooks := .later }
def FnExactRexTextCardSaid : Prop := Claim7.holds Tryd.pinned (.plain (OpenSpec.ofChange fnExactRexTextSpec)) fnExactRexTextCard

/-- THE SECOND FORM's CARD OF 'laws.FnExactRexOk'. -/
def fnExactRexOkUptoCard : Claim7 := { stood := { row := fnExactRexOkUptoRow, standIns := [], harness := (true, "1be28ae9f19554b4622e49a81d26b754bc476acb08367ef2d55bcb72698b5450"), looks := false }, kinds := [], alts := [], laidByText := true, laidKinds := [.sentinel], laidTests := true, laidLooks := .later }
def FnExactRexOkUptoCardSaid : Prop := Claim7.holds Tryd.pinned (.plain (OpenSpec.upto fnExactRexOkSpec)) fnExactRexOkUptoCard

/-- THE SECOND FORM's CARD OF 'laws.FnExactRexMany'. -/
def fnExactRexManyUptoCard : Claim7 := { stood := { row := fnExactRexManyUptoRow, standIns := [], harness := (true, "1be28ae9f19554b4622e49a81d26b754bc476acb08367ef2d55bcb72698b5450"), looks := false }, kinds := [], alts := [], laidByText := true, laidKinds := [.sentinel], laidTests := true, laidLooks := .later }
def FnExactRexManyUptoCardSaid : Prop := Claim7.holds Tryd.pinned (.plain (OpenSpec.upto fnExactRexManySpec)) fnExactRexManyUptoCard

/-- THE SECOND FORM's CARD OF 'laws.FnExactRexNull'. -/
def fnExactRexNullUptoCard : Claim7 := { stood := { row := fnExactRexNullUptoRow, standIns := [], harness := (true, "1be28ae9f19554b4622e49a81d26b754bc476acb08367ef2d55bcb72698b5450"), looks := false }, kinds := [], alts := [], laidByText := true, laidKinds := [.sentinel], laidTests := true, laidLooks := .later }
def FnExactRexNullUptoCardSaid : Prop := Claim7.holds Tryd.pinned (.plain (OpenSpec.upto fnExactRexNullSpec)) fnExactRexNullUptoCard

/-- THE SECOND FORM's CARD OF 'laws.FnExactRexSets'. -/
def fnExactRexSetsUptoCard : Claim7 := { stood := { row := fnExactRexSetsUptoRow, standIns := [], harness := (true, "1be28ae9f19554b4622e49a81d26b754bc476acb08367ef2d55bcb72698b5450"), looks := false }, kinds := [], alts := [], laidByText := true, laidKinds := [.sentinel], laidTests := true, laidLooks := .later }
def FnExactRexSetsUptoCardSaid : Prop := Claim7.holds Tryd.pinned (.plain (OpenSpec.upto fnExactRexSetsSpec)) fnExactRexSetsUptoCard

/-- THE SECOND FORM's CARD OF 'laws.FnExactRexText'. -/
def fnExactRexTextUptoCard : Claim7 := { stood := { row := fnExactRexTextUptoRow, standIns := [], harness := (true, "1be28ae9f19554b4622e49a81d26b754bc476acb08367ef2d55bcb72698b5450"), looks := false }, kinds := [], alts := [], laidByText := true, laidKinds := [.data, .data, .data, .sentinel], laidTests := true, laidLooks := .later }
def FnExactRexTextUptoCardSaid : Prop := Claim7.holds Tryd.pinned (.plain (OpenSpec.upto fnExactRexTextSpec)) fnExactRexTextUptoCard
end Rows
end Go.Proofs.YtjaaokclpclnaaaDoor
