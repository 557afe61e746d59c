/- The walks of the model's NormStar and NormNot. -/
import Derived.Test.YtiphmmgfmiiilaaDoorNe
namespace Go.Proofs.YtiphmmgfmiiilaaDoor
open Go.RowKit
set_option linter.unusedVariables false
set_option linter.unusedSimpArgs false

theorem own3 {w : World} {b lo : Nat} (h : b < lo) (u0 u1 u2 : Value) {S : Sh} {M : Mx} (hi : Own lo w S M) : Own lo (((w.setCell ⟨b, 0, none⟩ u0).setCell ⟨b, 1, none⟩ u1).setCell ⟨b, 2, none⟩ u2) S M :=
  hi.keep (fun k hk _ => keep3 w b 0 1 2 u0 u1 u2 (by omega))

end Go.Proofs.YtiphmmgfmiiilaaDoor

