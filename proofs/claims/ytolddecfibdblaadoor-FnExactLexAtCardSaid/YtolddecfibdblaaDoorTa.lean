/- the walks of szRex, szRexS -/
import Derived.Test.YtolddecfibdblaaDoorTree
namespace Go.Proofs.YtolddecfibdblaaDoor
open Go.RowKit
set_option linter.unusedVariables false
set_option linter.unusedSimpArgs false

theorem leftOf_neg {left : Int} {c : Nat} (h : left < c) : leftOf left c = -1 := by simp [leftOf, h]
theorem leftOf_pos {left : Int} {c : Nat} (h : ¬ left < c) : leftOf left c = left - c := by simp [leftOf, h]

end Go.Proofs.YtolddecfibdblaaDoor

