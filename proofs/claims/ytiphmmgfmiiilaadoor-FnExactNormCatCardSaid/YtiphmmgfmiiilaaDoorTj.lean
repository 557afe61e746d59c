/- what is told by the parts of a Rex; a block that holds a range over a function; no Go text is walked here -/
import Derived.Test.YtiphmmgfmiiilaaDoorTh
import Derived.Shelf.Abstract
import Derived.Shelf.RegionOpen
import Derived.OwnWalkIn
import Derived.TacticsInMore
import Derived.LoopNIn
import Derived.LoopIn
namespace Go.Proofs.YtiphmmgfmiiilaaDoor
open Go.RowKit
set_option linter.unusedVariables false
set_option linter.unusedSimpArgs false

theorem Keeps.frozen {X : Nat → Prop} {A B : World} (h : Keeps X A B) {p : Addr} {v : Value} (hc : A.cell? p = some v) (hx : ¬ X p.block) : B.frozen? p = A.frozen? p :=
  World.frozen?_of_block (w := A) (h.block p.block (World.block_lt_of_cell? _ _ hc) hx)

/-- a part is as it must be -/
def goodS (S : Sh) : Bool := goodB S.kind S.n S.L S.H S.m

end Go.Proofs.YtiphmmgfmiiilaaDoor

