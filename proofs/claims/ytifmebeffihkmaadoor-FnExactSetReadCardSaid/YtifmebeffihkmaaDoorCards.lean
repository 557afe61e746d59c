/-
  DERIVED. GIVEN WITH THE SEED: THE CARDS: each row of YtifmebeffihkmaaDoorRows.lean that lists a variable, with what it lists TIED to the program's text (the seventh form; the later family's looks); each row that meets fmt, with fmt's text TOLD by the authors' own Lean function (tested against real Go, not proved from fmt's source: count such statements apart). THE CARD IS WHAT COUNTS. Prove the row's statement (the work); the ties are given (YtifmebeffihkmaaDoorTie.lean); close each card by the builder's one call (the guide's Derived/Test/ToyasCard.lean, 'card_holds'). Laid BY PROGRAM, IN A SANDBOX (cutbox-door.mjs). By AI agents, Wed Nov 11 2026. No macro, syntax, notation, axiom, sorry.
-/
import Derived.Test.YtifmebeffihkmaaDoorRows
import GoSem.ClaimSeven
namespace Go.Proofs.YtifmebeffihkmaaDoor
namespace Rows

/-- THE TIED CARD OF 'laws.FnExactSetFirst'. -/
def fnExactSetFirstCard : Claim7 := { stood := { row := fnExactSetFirstRow, standIns := [], harness := (true, "5705a53f5742685663a89da38fd4cf81ec549b9fe51b9fc04cd20a5a0f0b19d3"), looks := true }, kinds := [], alts := [], laidByText := true, laidKinds := [.data], laidTests := true, laidLooks := .later }
def FnExactSetFirstCardSaid : Prop := Claim7.holds Tryd.pinned (.plain (OpenSpec.ofChange fnExactSetFirstSpec)) fnExactSetFirstCard

/-- THE TIED CARD OF 'laws.FnExactSetText'. -/
def fnExactSetTextCard : Claim7 := { stood := { row := fnExactSetTextRow, standIns := [], harness := (true, "5705a53f5742685663a89da38fd4cf81ec549b9fe51b9fc04cd20a5a0f0b19d3"), looks := true }, kinds := [], alts := [], laidByText := true, laidKinds := [.data, .data, .data], laidTests := true, laidLooks := .later }
def FnExactSetTextCardSaid : Prop := Claim7.holds Tryd.pinned (.plain (OpenSpec.ofChange fnExactSetTextSpec)) fnExactSetTextCard

/-- THE TIED CARD OF 'laws.FnExactSetRead'. -/
def fnExactSetReadCard : Claim7 := { stood := { row := fnExactSetReadRow, standIns := [], harness := (true, "5705a53f5742685663a89da38fd4cf81ec549b9fe51b9fc04cd20a5a0f0b19d3"), looks := true }, kinds := [], alts := [], laidByText := true, laidKinds := [.data, .data, .data, .data, .sentinel, .sentinel, .pinned], laidTests := true, laidLooks := .later }
def FnExactSetReadCardSaid : Prop := Claim7.holds Tryd.pinned (.plain (OpenSpec.ofChange fnExactSetReadSpec)) fnExactSetReadCard

/-- THE TIED CARD OF 'laws.FnExactSetParts'. -/
def fnExactSetPartsCard : Claim7 := { stood := { row := fnExactSetPartsRow, standIns := [], harness := (true, "5705a53f5742685663a89da38fd4cf81ec549b9fe51b9fc04cd20a5a0f0b19d3"), looks := true }, kinds := [], alts := [], laidByText := true, laidKinds := [.data], laidTests := true, laidLooks := .later }
def FnExactSetPartsCardSaid : Prop := Claim7.holds Tryd.pinned (.plain (OpenSpec.ofChange fnExactSetPartsSpec)) fnExactSetPartsCard

/-- THE SECOND FORM's CARD OF 'laws.FnExactSetFirst'. -/
def fnExactSetFirstUptoCard : Claim7 := { stood := { row := fnExactSetFirstUptoRow, standIns := [], harness := (true, "5705a53f5742685663a89da38fd4cf81ec549b9fe51b9fc04cd20a5a0f0b19d3"), looks := true }, kinds := [], alts := [], laidByText := true, laidKinds := [.data], laidTests := true, laidLooks := .later }
def FnExactSetFirstUptoCardSaid : Prop := Claim7.holds Tryd.pinned (.plain (OpenSpec.upto fnExactSetFirstSpec)) fnExactSetFirstUptoCard

/-- THE SECOND FORM's CARD OF 'laws.FnExactSetText'. -/
def fnExactSetTextUptoCard : Claim7 := { stood := { row := fnExactSetTextUptoRow, standIns := [], harness := (true, "5705a53f5742685663a89da38fd4cf81ec549b9fe51b9fc04cd20a5a0f0b19d3"), looks := true }, kinds := [], alts := [], laidByText := true, laidKinds := [.data, .data, .data], laidTests := true, laidLooks := .later }
def FnExactSetTextUptoCardSaid : Prop := Claim7.holds Tryd.pinned (.plain (OpenSpec.upto fnExactSetTextSpec)) fnExactSetTextUptoCard

/-- THE SECOND FORM's CARD OF 'laws.FnExactSetRead'. -/
def fnExactSetReadUptoCard : Claim7 := { stood := { row := fnExactSetReadUptoRow, standIns := [], harness := (true, "5705a53f5742685663a89da38fd4cf81ec549b9fe51b9fc04cd20a5a0f0b19d3"), looks := true }, kinds := [], alts := [], laidByText := true, laidKinds := [.data, .data, .data, .data, .sentinel, .sentinel, .pinned], laidTests := true, laidLooks := .later }
def FnExactSetReadUptoCardSaid : Prop := Claim7.holds Tryd.pinned (.plain (OpenSpec.upto fnExactSetReadSpec)) fnExactSetReadUptoCard

/-- THE SECOND FORM's CARD OF 'laws.FnExactSetParts'. -/
def fnExactSetPartsUptoCard : Claim7 := { stood := { row := fnExactSetPartsUptoRow, standIns := [], harness := (true, "5705a53f5742685663a89da38fd4cf81ec549b9fe51b9fc04cd20a5a0f0b19d3"), looks := true }, kinds := [], alts := [], laidByText := true, laidKinds := [.data], laidTests := true, laidLooks := .later }
def FnExactSetPartsUptoCardSaid : Prop := Claim7.holds Tryd.pinned (.plain (OpenSpec.upto fnExactSetPartsSpec)) fnExactSetPartsUptoCard
end Rows
end Go.Proofs.YtifmebeffihkmaaDoor
