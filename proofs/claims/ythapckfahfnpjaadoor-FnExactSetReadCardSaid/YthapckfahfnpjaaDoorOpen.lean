/- what is known of a Rex that came in -/
import Derived.Test.YthapckfahfnpjaaDoorTree
import Derived.ProofKit
import Derived.OpenShut
import Derived.ShutString
import Derived.ChangeOld
import Derived.Below
import Derived.Deep.SlicePairs
namespace Go.Proofs.YthapckfahfnpjaaDoor
open Go.ChangeShapes Go.WideShapes Go.ChangeAt Go.RowKit Go.Deep
set_option linter.unusedVariables false
set_option linter.unusedSimpArgs false

theorem own : ownKnob Tryd.prog.godebug = none := by kernel_rfl
theorem laidOut : laidOutB Tryd.prog = true := by kernel_rfl
/-- a shape of nothing -/
def Sh.no : Sh := .node 0 0 (fun _ => 0) (fun _ => 0) 0 (fun i => absurd i.2 (Nat.not_lt_zero _))

end Go.Proofs.YthapckfahfnpjaaDoor

