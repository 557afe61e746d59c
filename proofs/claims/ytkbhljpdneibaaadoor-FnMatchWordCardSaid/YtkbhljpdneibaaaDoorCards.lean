/-
  DERIVED. GIVEN WITH THE SEED: THE CARDS: each row of YtkbhljpdneibaaaDoorRows.lean that lists a variable, with what it lists TIED to the program's text (the seventh form; the later family's looks); each row that meets fmt, with fmt's text TOLD by the authors' own Lean function (tested against real Go, not proved from fmt's source: count such statements apart). THE CARD IS WHAT COUNTS. Prove the row's statement (the work); the ties are given (YtkbhljpdneibaaaDoorTie.lean); close each card by the builder's one call (the guide's Derived/Test/ToyasCard.lean, 'card_holds'). Laid BY PROGRAM, IN A SANDBOX (cutbox-door.mjs). By AI agents, Wed Nov 11 2026. No macro, syntax, notation, axiom, sorry.
-/
import Derived.Test.YtkbhljpdneibaaaDoorRows
import GoSem.ClaimSeven
namespace Go.Proofs.YtkbhljpdneibaaaDoor
namespace Rows

/-- THE TIED CARD OF 'laws.FnRexMany'. -/
def fnRexManyCard : Claim7 := { stood := { row := fnRexManyRow, standIns := [], harness := (true, "096123366a8c798ba177d9855d5325d544ab628ee13d643c0106cd5d81bcd307"), looks := false }, kinds := [], alts := [], laidByText := true, laidKinds := [.sentinel], laidTests := true, laidLooks := .later }
def FnRexManyCardSaid : Prop := Claim7.holds Tryd.pinned (.plain (OpenSpec.ofChange fnRexManySpec)) fnRexManyCard

/-- THE TIED CARD OF 'laws.FnMatch'. -/
def fnMatchCard : Claim7 := { stood := { row := fnMatchRow, standIns := [], harness := (true, "096123366a8c798ba177d9855d5325d544ab628ee13d643c0106cd5d81bcd307"), looks := false }, kinds := [], alts := [], laidByText := true, laidKinds := [.sentinel], laidTests := true, laidLooks := .later }
def FnMatchCardSaid : Prop := Claim7.holds Tryd.pinned (.plain (OpenSpec.ofChange fnMatchSpec)) fnMatchCard

/-- THE TIED CARD OF 'laws.FnMatchCat'. -/
def fnMatchCatCard : Claim7 := { stood := { row := fnMatchCatRow, standIns := [], harness := (true, "096123366a8c798ba177d9855d5325d544ab628ee13d643c0106cd5d81bcd307"), looks := false }, kinds := [], alts := [], laidByText := true, laidKinds := [.sentinel], laidTests := true, laidLooks := .later }
def FnMatchCatCardSaid : Prop := Claim7.holds Tryd.pinned (.plain (OpenSpec.ofChange fnMatchCatSpec)) fnMatchCatCard

/-- THE TIED CARD OF 'laws.FnMatchWord'. -/
def fnMatchWordCard : Claim7 := { stood := { row := fnMatchWordRow, standIns := [], harness := (true, "096123366a8c798ba177d9855d5325d544ab628ee13d643c0106cd5d81bcd307"), looks := false }, kinds := [], alts := [], laidByText := true, laidKinds := [.sentinel], laidTests := true, laidLooks := .later }
def FnMatchWordCardSaid : Prop := Claim7.holds Tryd.pinned (.plain (OpenSpec.ofChange fnMatchWordSpec)) fnMatchWordCard

/-- THE SECOND FORM's CARD OF 'laws.FnRexMany'. -/
def fnRexManyUptoCard : Claim7 := { stood := { row := fnRexManyUptoRow, standIns := [], harness := (true, "096123366a8c798ba177d9855d5325d544ab628ee13d643c0106cd5d81bcd307"), looks := false }, kinds := [], alts := [], laidByText := true, laidKinds := [.sentinel], laidTests := true, laidLooks := .later }
def FnRexManyUptoCardSaid : Prop := Claim7.holds Tryd.pinned (.plain (OpenSpec.upto fnRexManySpec)) fnRexManyUptoCard

/-- THE SECOND FORM's CARD OF 'laws.FnMatch'. -/
def fnMatchUptoCard : Claim7 := { stood := { row := fnMatchUptoRow, standIns := [], harness := (true, "096123366a8c798ba177d9855d5325d544ab628ee13d643c0106cd5d81bcd307"), looks := false }, kinds := [], alts := [], laidByText := true, laidKinds := [.sentinel], laidTests := true, laidLooks := .later }
def FnMatchUptoCardSaid : Prop := Claim7.holds Tryd.pinned (.plain (OpenSpec.upto fnMatchSpec)) fnMatchUptoCard

/-- THE SECOND FORM's CARD OF 'laws.FnMatchCat'. -/
def fnMatchCatUptoCard : Claim7 := { stood := { row := fnMatchCatUptoRow, standIns := [], harness := (true, "096123366a8c798ba177d9855d5325d544ab628ee13d643c0106cd5d81bcd307"), looks := false }, kinds := [], alts := [], laidByText := true, laidKinds := [.sentinel], laidTests := true, laidLooks := .later }
def FnMatchCatUptoCardSaid : Prop := Claim7.holds Tryd.pinned (.plain (OpenSpec.upto fnMatchCatSpec)) fnMatchCatUptoCard

/-- THE SECOND FORM's CARD OF 'laws.FnMatchWord'. -/
def fnMatchWordUptoCard : Claim7 := { stood := { row := fnMatchWordUptoRow, standIns := [], harness := (true, "096123366a8c798ba177d9855d5325d544ab628ee13d643c0106cd5d81bcd307"), looks := false }, kinds := [], alts := [], laidByText := true, laidKinds := [.sentinel], laidTests := true, laidLooks := .later }
def FnMatchWordUptoCardSaid : Prop := Claim7.holds Tryd.pinned (.plain (OpenSpec.upto fnMatchWordSpec)) fnMatchWordUptoCard
end Rows
end Go.Proofs.YtkbhljpdneibaaaDoor
