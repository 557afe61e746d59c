/- The walks of l3Word, l1Min, l2Byte. -/
import Derived.Test.YtiphmmgfmiiilaaDoorDa
import Derived.Deep.AppendLies
namespace Go.Proofs.YtiphmmgfmiiilaaDoor
open Go.RowKit
set_option linter.unusedVariables false
set_option linter.unusedSimpArgs false

theorem below_new (w : World) (o : Obj) : Below w.heap.size w (w.alloc o) := (Below.refl _ _).alloc (Nat.le_refl _) _
theorem size_new (w : World) (o : Obj) : (w.alloc o).heap.size = w.heap.size + 1 := by show (w.heap.push o).size = _; simp

end Go.Proofs.YtiphmmgfmiiilaaDoor

