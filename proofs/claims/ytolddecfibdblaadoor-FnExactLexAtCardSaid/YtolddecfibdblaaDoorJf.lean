/- the walk of the law of DfaSame -/
import Derived.Test.YtolddecfibdblaaDoorJe
import Derived.Deep.Cut
namespace Go.Proofs.YtolddecfibdblaaDoor
open Go.RowKit
set_option linter.unusedVariables false
set_option linter.unusedSimpArgs false

/-- the machine's three lists lie in a box -/
def Bx (w : World) (b : Nat) (D : Dx) : Prop := w.cell? ⟨b, 0, none⟩ = some (.slice D.pa D.pn D.pc) ∧ w.cell? ⟨b, 1, none⟩ = some (.slice D.ra D.rn D.rc) ∧ w.cell? ⟨b, 2, none⟩ = some (.slice D.aa D.an D.ac)
theorem Bx.below {w w' : World} {b : Nat} {D : Dx} (h : Bx w b D) (hb : Below w.heap.size w w') : Bx w' b D :=
  ⟨(hb.cell (p := ⟨_, _, none⟩) (World.block_lt_of_cell? _ _ h.1)).trans h.1, (hb.cell (p := ⟨_, _, none⟩) (World.block_lt_of_cell? _ _ h.2.1)).trans h.2.1, (hb.cell (p := ⟨_, _, none⟩) (World.block_lt_of_cell? _ _ h.2.2)).trans h.2.2⟩

end Go.Proofs.YtolddecfibdblaaDoor

