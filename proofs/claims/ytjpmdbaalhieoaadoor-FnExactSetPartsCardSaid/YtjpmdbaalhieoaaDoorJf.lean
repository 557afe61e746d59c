/- the walk of the law of DfaSame -/
import Derived.Test.YtjpmdbaalhieoaaDoorJc
import Derived.Test.YtjpmdbaalhieoaaDoorTb
import Derived.Test.YtjpmdbaalhieoaaDoorWb
import Derived.Laws.StructEq
import Derived.Deep.RegionHeld
import Derived.Deep.Cut
namespace Go.Proofs.YtjpmdbaalhieoaaDoor
open Go.RowKit
set_option linter.unusedVariables false
set_option linter.unusedSimpArgs false

/-- what is told says whether P -/
def IsB (P : Prop) (w : World) (e : Ending) (w' : World) : Prop := ∃ b : Bool, e = .returned (.bool b) ∧ (b = true ↔ P) ∧ Below w.heap.size w w'
theorem IsB.no {P : Prop} {w w' : World} (h : ¬ P) (hb : Below w.heap.size w w') : IsB P w (.returned (.bool false)) w' := ⟨false, rfl, ⟨fun e => (by cases e), fun e => absurd e h⟩, hb⟩
end Go.Proofs.YtjpmdbaalhieoaaDoor
namespace Go.Proofs.YtjpmdbaalhieoaaDoor
open Go.RowKit
set_option linter.unusedVariables false
set_option linter.unusedSimpArgs false

/-- the machine's three lists lie in a box -/
def Bx (w : World) (b : Nat) (D : Dx) : Prop := w.cell? ⟨b, 0, none⟩ = some (.slice D.pa D.pn D.pc) ∧ w.cell? ⟨b, 1, none⟩ = some (.slice D.ra D.rn D.rc) ∧ w.cell? ⟨b, 2, none⟩ = some (.slice D.aa D.an D.ac)
theorem Bx.below {w w' : World} {b : Nat} {D : Dx} (h : Bx w b D) (hb : Below w.heap.size w w') : Bx w' b D :=
  ⟨(hb.cell (p := ⟨_, _, none⟩) (World.block_lt_of_cell? _ _ h.1)).trans h.1, (hb.cell (p := ⟨_, _, none⟩) (World.block_lt_of_cell? _ _ h.2.1)).trans h.2.1, (hb.cell (p := ⟨_, _, none⟩) (World.block_lt_of_cell? _ _ h.2.2)).trans h.2.2⟩

end Go.Proofs.YtjpmdbaalhieoaaDoor

