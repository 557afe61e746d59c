/- the walks of DfaSame, both sides -/
import Derived.Test.YtolddecfibdblaaDoorJd
import Derived.Test.YtolddecfibdblaaDoorYa
import Derived.Laws.StructEq
import Derived.Deep.RegionHeld
namespace Go.Proofs.YtolddecfibdblaaDoor
open Go.RowKit
set_option linter.unusedVariables false
set_option linter.unusedSimpArgs false

/-- what is told says whether P -/
def IsB (P : Prop) (w : World) (e : Ending) (w' : World) : Prop := ∃ b : Bool, e = .returned (.bool b) ∧ (b = true ↔ P) ∧ Below w.heap.size w w'
theorem IsB.no {P : Prop} {w w' : World} (h : ¬ P) (hb : Below w.heap.size w w') : IsB P w (.returned (.bool false)) w' := ⟨false, rfl, ⟨fun e => (by cases e), fun e => absurd e h⟩, hb⟩
theorem IsB.yes {P : Prop} {w w' : World} (h : P) (hb : Below w.heap.size w w') : IsB P w (.returned (.bool true)) w' := ⟨true, rfl, ⟨fun _ => h, fun _ => rfl⟩, hb⟩
end Go.Proofs.YtolddecfibdblaaDoor

