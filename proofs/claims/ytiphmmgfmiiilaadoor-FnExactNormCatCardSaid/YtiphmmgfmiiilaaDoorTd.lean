/- the walks of eqRex, eqRexS, at two of one shape -/
import Derived.Test.YtiphmmgfmiiilaaDoorTc
namespace Go.Proofs.YtiphmmgfmiiilaaDoor
open Go.RowKit
set_option linter.unusedVariables false
set_option linter.unusedSimpArgs false

theorem eqB_self (n : Nat) (L H : Nat → Int) : eqB n L H n L H = true := eqB_all (fun i _ => ⟨rfl, rfl⟩)

end Go.Proofs.YtiphmmgfmiiilaaDoor

