/- The runs of a set of bytes, and the walk of l1Of (carried from P1's texts). -/
import Derived.Test.YtiphmmgfmiiilaaDoorDd
import Derived.Laws.OwnMore
namespace Go.Proofs.YtiphmmgfmiiilaaDoor
open Go.RowKit
set_option linter.unusedVariables false
set_option linter.unusedSimpArgs false

/-- the cells of runs -/
def cellsR (R : List (Nat × Nat)) : List Value := R.flatMap fun p => [.int .i64 (p.1 : Int), .int .i64 (p.2 : Int)]
end Go.Proofs.YtiphmmgfmiiilaaDoor

