/-
  DERIVED. GIVEN WITH THE SEED: THE CARDS: each row of YtbnllbhlmnkgcaaDoorRows.lean that lists a variable, with what it lists TIED to the program's text (the seventh form; the later family's looks); each row that meets fmt, with fmt's text TOLD by the authors' own Lean function (tested against real Go, not proved from fmt's source: count such statements apart). THE CARD IS WHAT COUNTS. Prove the row's statement (the work); the ties are given (YtbnllbhlmnkgcaaDoorTie.lean); close each card by the builder's one call (the guide's Derived/Test/ToyasCard.lean, 'card_holds'). Laid BY PROGRAM, IN A SANDBOX (cutbox-door.mjs). By AI agents, Wed Nov 11 2026. No macro, syntax, notation, axiom, sorry.
-/
import Derived.Test.YtbnllbhlmnkgcaaDoorRows
import GoSem.ClaimSeven
namespace Go.Proofs.YtbnllbhlmnkgcaaDoor
namespace Rows

/-- THE TIED CARD OF 'laws.FnMatchLong'. -/
def fnMatchLongCard : Claim7 := { stood := { row := fnMatchLongRow, standIns := [], harness := (true, "ec6287843464278ba118c30a9e55fc16a9760554256efa0a983de96f80652512"), looks := false }, kinds := [], alts := [], laidByText := true, laidKinds := [.sentinel], laidTests := true, laidLooks := .later }
def FnMatchLongCardSaid : Prop := Claim7.holds Tryd.pinned (.plain (OpenSpec.ofChange fnMatchLongSpec)) fnMatchLongCard

/-- THE TIED CARD OF 'laws.FnMatchEnds'. -/
def fnMatchEndsCard : Claim7 := { stood := { row := fnMatchEndsRow, standIns := [], harness := (true, "ec6287843464278ba118c30a9e55fc16a9760554256efa0a983de96f80652512"), looks := false }, kinds := [], alts := [], laidByText := true, laidKinds := [.sentinel], laidTests := true, laidLooks := .later }
def FnMatchEndsCardSaid : Prop := Claim7.holds Tryd.pinned (.plain (OpenSpec.ofChange fnMatchEndsSpec)) fnMatchEndsCard

/-- THE TIED CARD OF 'laws.FnExactSetParts'. -/
def fnExactSetPartsCard : Claim7 := { stood := { row := fnExactSetPartsRow, standIns := [], harness := (true, "ec6287843464278ba118c30a9e55fc16a9760554256efa0a983de96f80652512"), looks := false }, kinds := [], alts := [], laidByText := true, laidKinds := [.data], laidTests := true, laidLooks := .later }
def FnExactSetPartsCardSaid : Prop := Claim7.holds Tryd.pinned (.plain (OpenSpec.ofChange fnExactSetPartsSpec)) fnExactSetPartsCard

/-- THE TIED CARD OF 'laws.FnExactRexOk'. -/
def fnExactRexOkCard : Claim7 := { stood := { row := fnExactRexOkRow, standIns := [], harness := (true, "ec6287843464278ba118c30a9e55fc16a9760554256efa0a983de96f80652512"), looks := false }, kinds := [], alts := [], laidByText := true, laidKinds := [.sentinel], laidTests := true, laidLooks := .later }
def FnExactRexOkCardSaid : Prop := Claim7.holds Tryd.pinned (.plain (OpenSpec.ofChange fnExactRexOkSpec)) fnExactRexOkCard

/-- THE TIED CARD OF 'laws.FnExactRexMany'. -/
def fnExactRexManyCard : Claim7 := { stood := { row := fnExactRexManyRow, standIns := [], harness := (true, "ec6287843464278ba118c30a9e55fc16a9760554256efa0a983de96f80652512"), looks := false }, kinds := [], alts := [], laidByText := true, laidKinds := [.sentinel], laidTests := true, laidLooks := .later }
def FnExactRexManyCardSaid : Prop := Claim7.holds Tryd.pinned (.plain (OpenSpec.ofChange fnExactRexManySpec)) fnExactRexManyCard

/-- THE TIED CARD OF 'laws.FnExactRexNull'. -/
def fnExactRexNullCard : Claim7 := { stood := { row := fnExactRexNullRow, standIns := [], harness := (true, "ec6287843464278ba118c30a9e55fc16a9760554256efa0a983de96f80652512"), looks := false }, kinds := [], alts := [], laidByText := true, laidKinds := [.sentinel], laidTests := true, laidLooks := .later }
def FnExactRexNullCardSaid : Prop := Claim7.holds Tryd.pinned (.plain (OpenSpec.ofChange fnExactRexNullSpec)) fnExactRexNullCard

/-- THE TIED CARD OF 'laws.FnExactRexSets'. -/
def fnExactRexSetsCard : Claim7 := { stood := { row := fnExactRexSetsRow, standIns := [], harness := (true, "ec6287843464278ba118c30a9e55fc16a9760554256efa0a983de96f80652512"), looks := false }, kinds := [], alts := [], laidByText := true, laidKinds := [.sentinel], laidTests := true, laidLooks := .later }
def FnExactRexSetsCardSaid : Prop := Claim7.holds Tryd.pinned (.plain (OpenSpec.ofChange fnExactRexSetsSpec)) fnExactRexSetsCard

/-- THE TIED CARD OF 'laws.FnExactRexText'. -/
def fnExactRexTextCard : Claim7 := { stood := { row := fnExactRexTextRow, standIns := [], harness := (true, "ec6287843464278ba118c30a9e55fc16a9760554256efa0a983de96f80652512"), looks := false }, kinds := [], alts := [], laidByText := true, laidKinds := [.data, .data, .data, .sentinel], laidTests := true, laidLooks := .later }
def FnExactRexTextCardSaid : Prop := Claim7.holds Tryd.pinned (.plain (OpenSpec.ofChange fnExactRexTextSpec)) fnExactRexTextCard

/-- THE TIED CARD OF 'laws.FnExactMatchIs'. -/
def fnExactMatchIsCard : Claim7 := { stood := { row := fnExactMatchIsRow, standIns := [], harness := (true, "ec6287843464278ba118c30a9e55fc16a9760554256efa0a983de96f80652512"), looks := false }, kinds := [], alts := [], laidByText := true, laidKinds := [.sentinel], laidTests := true, laidLooks := .later }
def FnExactMatchIsCardSaid : Prop := Claim7.holds Tryd.pinned (.plain (OpenSpec.ofChange fnExactMatchIsSpec)) fnExactMatchIsCard

/-- THE TIED CARD OF 'laws.FnExactMatchLong'. -/
def fnExactMatchLongCard : Claim7 := { stood := { row := fnExactMatchLongRow, standIns := [], harness := (true, "ec6287843464278ba118c30a9e55fc16a9760554256efa0a983de96f80652512"), looks := false }, kinds := [], alts := [], laidByText := true, laidKinds := [.sentinel], laidTests := true, laidLooks := .later }
def FnExactMatchLongCardSaid : Prop := Claim7.holds Tryd.pinned (.plain (OpenSpec.ofChange fnExactMatchLongSpec)) fnExactMatchLongCard

/-- THE TIED CARD OF 'laws.FnExactNormCat'. -/
def fnExactNormCatCard : Claim7 := { stood := { row := fnExactNormCatRow, standIns := [], harness := (true, "ec6287843464278ba118c30a9e55fc16a9760554256efa0a983de96f80652512"), looks := false }, kinds := [], alts := [], laidByText := true, laidKinds := [.sentinel], laidTests := true, laidLooks := .later }
def FnExactNormCatCardSaid : Prop := Claim7.holds Tryd.pinned (.plain (OpenSpec.ofChange fnExactNormCatSpec)) fnExactNormCatCard

/-- THE TIED CARD OF 'laws.FnExactNormStar'. -/
def fnExactNormStarCard : Claim7 := { stood := { row := fnExactNormStarRow, standIns := [], harness := (true, "ec6287843464278ba118c30a9e55fc16a9760554256efa0a983de96f80652512"), looks := false }, kinds := [], alts := [], laidByText := true, laidKinds := [.sentinel], laidTests := true, laidLooks := .later }
def FnExactNormStarCardSaid : Prop := Claim7.holds Tryd.pinned (.plain (OpenSpec.ofChange fnExactNormStarSpec)) fnExactNormStarCard

/-- THE TIED CARD OF 'laws.FnExactNormNot'. -/
def fnExactNormNotCard : Claim7 := { stood := { row := fnExactNormNotRow, standIns := [], harness := (true, "ec6287843464278ba118c30a9e55fc16a9760554256efa0a983de96f80652512"), looks := false }, kinds := [], alts := [], laidByText := true, laidKinds := [.sentinel], laidTests := true, laidLooks := .later }
def FnExactNormNotCardSaid : Prop := Claim7.holds Tryd.pinned (.plain (OpenSpec.ofChange fnExactNormNotSpec)) fnExactNormNotCard

/-- THE SECOND FORM's CARD OF 'laws.FnMatchLong'. -/
def fnMatchLongUptoCard : Claim7 := { stood := { row := fnMatchLongUptoRow, standIns := [], harness := (true, "ec6287843464278ba118c30a9e55fc16a9760554256efa0a983de96f80652512"), looks := false }, kinds := [], alts := [], laidByText := true, laidKinds := [.sentinel], laidTests := true, laidLooks := .later }
def FnMatchLongUptoCardSaid : Prop := Claim7.holds Tryd.pinned (.plain (OpenSpec.upto fnMatchLongSpec)) fnMatchLongUptoCard

/-- THE SECOND FORM's CARD OF 'laws.FnMatchEnds'. -/
def fnMatchEndsUptoCard : Claim7 := { stood := { row := fnMatchEndsUptoRow, standIns := [], harness := (true, "ec6287843464278ba118c30a9e55fc16a9760554256efa0a983de96f80652512"), looks := false }, kinds := [], alts := [], laidByText := true, laidKinds := [.sentinel], laidTests := true, laidLooks := .later }
def FnMatchEndsUptoCardSaid : Prop := Claim7.holds Tryd.pinned (.plain (OpenSpec.upto fnMatchEndsSpec)) fnMatchEndsUptoCard

/-- THE SECOND FORM's CARD OF 'laws.FnExactSetParts'. -/
def fnExactSetPartsUptoCard : Claim7 := { stood := { row := fnExactSetPartsUptoRow, standIns := [], harness := (true, "ec6287843464278ba118c30a9e55fc16a9760554256efa0a983de96f80652512"), looks := false }, kinds := [], alts := [], laidByText := true, laidKinds := [.data], laidTests := true, laidLooks := .later }
def FnExactSetPartsUptoCardSaid : Prop := Claim7.holds Tryd.pinned (.plain (OpenSpec.upto fnExactSetPartsSpec)) fnExactSetPartsUptoCard

/-- THE SECOND FORM's CARD OF 'laws.FnExactRexOk'. -/
def fnExactRexOkUptoCard : Claim7 := { stood := { row := fnExactRexOkUptoRow, standIns := [], harness := (true, "ec6287843464278ba118c30a9e55fc16a9760554256efa0a983de96f80652512"), looks := false }, kinds := [], alts := [], laidByText := true, laidKinds := [.sentinel], laidTests := true, laidLooks := .later }
def FnExactRexOkUptoCardSaid : Prop := Claim7.holds Tryd.pinned (.plain (OpenSpec.upto fnExactRexOkSpec)) fnExactRexOkUptoCard

/-- THE SECOND FORM's CARD OF 'laws.FnExactRexMany'. -/
def fnExactRexManyUptoCard : Claim7 := { stood := { row := fnExactRexManyUptoRow, standIns := [], harness := (true, "ec6287843464278ba118c30a9e55fc16a9760554256efa0a983de96f80652512"), looks := false }, kinds := [], alts := [], laidByText := true, laidKinds := [.sentinel], laidTests := true, laidLooks := .later }
def FnExactRexManyUptoCardSaid : Prop := Claim7.holds Tryd.pinned (.plain (OpenSpec.upto fnExactRexManySpec)) fnExactRexManyUptoCard

/-- THE SECOND FORM's CARD OF 'laws.FnExactRexNull'. -/
def fnExactRexNullUptoCard : Claim7 := { stood := { row := fnExactRexNullUptoRow, standIns := [], harness := (true, "ec6287843464278ba118c30a9e55fc16a9760554256efa0a983de96f80652512"), looks := false }, kinds := [], alts := [], laidByText := true, laidKinds := [.sentinel], laidTests := true, laidLooks := .later }
def FnExactRexNullUptoCardSaid : Prop := Claim7.holds Tryd.pinned (.plain (OpenSpec.upto fnExactRexNullSpec)) fnExactRexNullUptoCard

/-- THE SECOND FORM's CARD OF 'laws.FnExactRexSets'. -/
def fnExactRexSetsUptoCard : Claim7 := { stood := { row := fnExactRexSetsUptoRow, standIns := [], harness := (true, "ec6287843464278ba118c30a9e55fc16a9760554256efa0a983de96f80652512"), looks := false }, kinds := [], alts := [], laidByText := true, laidKinds := [.sentinel], laidTests := true, laidLooks := .later }
def FnExactRexSetsUptoCardSaid : Prop := Claim7.holds Tryd.pinned (.plain (OpenSpec.upto fnExactRexSetsSpec)) fnExactRexSetsUptoCard

/-- THE SECOND FORM's CARD OF 'laws.FnExactRexText'. -/
def fnExactRexTextUptoCard : Claim7 := { stood := { row := fnExactRexTextUptoRow, standIns := [], harness := (true, "ec6287843464278ba118c30a9e55fc16a9760554256efa0a983de96f80652512"), looks := false }, kinds := [], alts := [], laidByText := true, laidKinds := [.data, .data, .data, .sentinel], laidTests := true, laidLooks := .later }
def FnExactRexTextUptoCardSaid : Prop := Claim7.holds Tryd.pinned (.plain (OpenSpec.upto fnExactRexTextSpec)) fnExactRexTextUptoCard

/-- THE SECOND FORM's CARD OF 'laws.FnExactMatchIs'. -/
def fnExactMatchIsUptoCard : Claim7 := { stood := { row := fnExactMatchIsUptoRow, standIns := [], harness := (true, "ec6287843464278ba118c30a9e55fc16a9760554256efa0a983de96f80652512"), looks := false }, kinds := [], alts := [], laidByText := true, laidKinds := [.sentinel], laidTests := true, laidLooks := .later }
def FnExactMatchIsUptoCardSaid : Prop := Claim7.holds Tryd.pinned (.plain (OpenSpec.upto fnExactMatchIsSpec)) fnExactMatchIsUptoCard

/-- THE SECOND FORM's CARD OF 'laws.FnExactMatchLong'. -/
def fnExactMatchLongUptoCard : Claim7 := { stood := { row := fnExactMatchLongUptoRow, standIns := [], harness := (true, "ec6287843464278ba118c30a9e55fc16a9760554256efa0a983de96f80652512"), looks := false }, kinds := [], alts := [], laidByText := true, laidKinds := [.sentinel], laidTests := true, laidLooks := .later }
def FnExactMatchLongUptoCardSaid : Prop := Claim7.holds Tryd.pinned (.plain (OpenSpec.upto fnExactMatchLongSpec)) fnExactMatchLongUptoCard

/-- THE SECOND FORM's CARD OF 'laws.FnExactNormCat'. -/
def fnExactNormCatUptoCard : Claim7 := { stood := { row := fnExactNormCatUptoRow, standIns := [], harness := (true, "ec6287843464278ba118c30a9e55fc16a9760554256efa0a983de96f80652512"), looks := false }, kinds := [], alts := [], laidByText := true, laidKinds := [.sentinel], laidTests := true, laidLooks := .later }
def FnExactNormCatUptoCardSaid : Prop := Claim7.holds Tryd.pinned (.plain (OpenSpec.upto fnExactNormCatSpec)) fnExactNormCatUptoCard

/-- THE SECOND FORM's CARD OF 'laws.FnExactNormStar'. -/
def fnExactNormStarUptoCard : Claim7 := { stood := { row := fnExactNormStarUptoRow, standIns := [], harness := (true, "ec6287843464278ba118c30a9e55fc16a9760554256efa0a983de96f80652512"), looks := false }, kinds := [], alts := [], laidByText := true, laidKinds := [.sentinel], laidTests := true, laidLooks := .later }
def FnExactNormStarUptoCardSaid : Prop := Claim7.holds Tryd.pinned (.plain (OpenSpec.upto fnExactNormStarSpec)) fnExactNormStarUptoCard

/-- THE SECOND FORM's CARD OF 'laws.FnExactNormNot'. -/
def fnExactNormNotUptoCard : Claim7 := { stood := { row := fnExactNormNotUptoRow, standIns := [], harness := (true, "ec6287843464278ba118c30a9e55fc16a9760554256efa0a983de96f80652512"), looks := false }, kinds := [], alts := [], laidByText := true, laidKinds := [.sentinel], laidTests := true, laidLooks := .later }
def FnExactNormNotUptoCardSaid : Prop := Claim7.holds Tryd.pinned (.plain (OpenSpec.upto fnExactNormNotSpec)) fnExactNormNotUptoCard
end Rows
end Go.Proofs.YtbnllbhlmnkgcaaDoor
