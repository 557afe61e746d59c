/- the walks of szRex, szRexS -/
import Derived.Test.YtkbhljpdneibaaaDoorTree
namespace Go.Proofs.YtkbhljpdneibaaaDoor
open Go.RowKit
set_option linter.unusedVariables false
set_option linter.unusedSimpArgs false

abbrev AnyB : Nat → Prop := fun _ => True

end Go.Proofs.YtkbhljpdneibaaaDoor

