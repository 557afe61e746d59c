/-
  DERIVED. GIVEN WITH THE SEED: THE CARDS: each row of YtbfpnndcbaffoaaDoorRows.lean that lists a variable, with what it lists TIED to the program's text (the seventh form; the later family's looks); each row that meets fmt, with fmt's text TOLD by the authors' own Lean function (tested against real Go, not proved from fmt's source: count such statements apart). THE CARD IS WHAT COUNTS. Prove the row's statement (the work); the ties are given (YtbfpnndcbaffoaaDoorTie.lean); close each card by the builder's one call (the guide's Derived/Test/ToyasCard.lean, 'card_holds'). Laid BY PROGRAM, IN A SANDBOX (cutbox-door.mjs). By AI agents, Wed Nov 11 2026. No macro, syntax, notation, axiom, sorry.
-/
import Derived.Test.YtbfpnndcbaffoaaDoorRows
import GoSem.ClaimSeven
namespace Go.Proofs.YtbfpnndcbaffoaaDoor
namespace Rows

/-- THE TIED CARD OF 'laws.FnExactLeastLive'. -/
def fnExactLeastLiveCard : Claim7 := { stood := { row := fnExactLeastLiveRow, standIns := [], harness := (true, "f69569ec611eda64639462bfa5a7ccf6816d6806680b49bf75df787dcbe69eae"), looks := false }, kinds := [], alts := [], laidByText := true, laidKinds := [.data], laidTests := true, laidLooks := .later }
def FnExactLeastLiveCardSaid : Prop := Claim7.holds Tryd.pinned (.plain (OpenSpec.ofChange fnExactLeastLiveSpec)) fnExactLeastLiveCard

/-- THE TIED CARD OF 'laws.FnExactLeastKinds'. -/
def fnExactLeastKindsCard : Claim7 := { stood := { row := fnExactLeastKindsRow, standIns := [], harness := (true, "f69569ec611eda64639462bfa5a7ccf6816d6806680b49bf75df787dcbe69eae"), looks := false }, kinds := [], alts := [], laidByText := true, laidKinds := [.data], laidTests := true, laidLooks := .later }
def FnExactLeastKindsCardSaid : Prop := Claim7.holds Tryd.pinned (.plain (OpenSpec.ofChange fnExactLeastKindsSpec)) fnExactLeastKindsCard

/-- THE TIED CARD OF 'laws.FnExactLeastTwo'. -/
def fnExactLeastTwoCard : Claim7 := { stood := { row := fnExactLeastTwoRow, standIns := [], harness := (true, "f69569ec611eda64639462bfa5a7ccf6816d6806680b49bf75df787dcbe69eae"), looks := false }, kinds := [], alts := [], laidByText := true, laidKinds := [.data], laidTests := true, laidLooks := .later }
def FnExactLeastTwoCardSaid : Prop := Claim7.holds Tryd.pinned (.plain (OpenSpec.ofChange fnExactLeastTwoSpec)) fnExactLeastTwoCard

/-- THE SECOND FORM's CARD OF 'laws.FnExactLeastLive'. -/
def fnExactLeastLiveUptoCard : Claim7 := { stood := { row := fnExactLeastLiveUptoRow, standIns := [], harness := (true, "f69569ec611eda64639462bfa5a7ccf6816d6806680b49bf75df787dcbe69eae"), looks := false }, kinds := [], alts := [], laidByText := true, laidKinds := [.data], laidTests := true, laidLooks := .later }
def FnExactLeastLiveUptoCardSaid : Prop := Claim7.holds Tryd.pinned (.plain (OpenSpec.upto fnExactLeastLiveSpec)) fnExactLeastLiveUptoCard

/-- THE SECOND FORM's CARD OF 'laws.FnExactLeastKinds'. -/
def fnExactLeastKindsUptoCard : Claim7 := { stood := { row := fnExactLeastKindsUptoRow, standIns := [], harness := (true, "f69569ec611eda64639462bfa5a7ccf6816d6806680b49bf75df787dcbe69eae"), looks := false }, kinds := [], alts := [], laidByText := true, laidKinds := [.data], laidTests := true, laidLooks := .later }
def FnExactLeastKindsUptoCardSaid : Prop := Claim7.holds Tryd.pinned (.plain (OpenSpec.upto fnExactLeastKindsSpec)) fnExactLeastKindsUptoCard

/-- THE SECOND FORM's CARD OF 'laws.FnExactLeastTwo'. -/
def fnExactLeastTwoUptoCard : Claim7 := { stood := { row := fnExactLeastTwoUptoRow, standIns := [], harness := (true, "f69569ec611eda64639462bfa5a7ccf6816d6806680b49bf75df787dcbe69eae"), looks := false }, kinds := [], alts := [], laidByText := true, laidKinds := [.data], laidTests := true, laidLooks := .later }
def FnExactLeastTwoUptoCardSaid : Prop := Claim7.holds Tryd.pinned (.plain (OpenSpec.upto fnExactLeastTwoSpec)) fnExactLeastTwoUptoCard
end Rows
end Go.Proofs.YtbfpnndcbaffoaaDoor
