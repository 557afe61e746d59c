/- Whatever is drawn, the longest match is as the model says, it matches, and no longer one does, the package's one error being as the program's text lays it. -/
import Derived.Test.YtdkdpdkmkabbaaaDoorPMlngA
import Derived.Test.YtdkdpdkmkabbaaaDoorTie
import Derived.Test.YtdkdpdkmkabbaaaDoorCards
import Derived.LaidMore
import Derived.Lib.LaidTab
import Derived.Stop.Joined
import Derived.Stop.LaidErr
import Derived.SevenTiedAt
import Derived.Lay
import Derived.ChangeMaps5
import Derived.ChangeVars
namespace Go.Proofs.YtdkdpdkmkabbaaaDoor
open Go.ChangeShapes Go.WideShapes Go.ChangeAt Go.RowKit
set_option linter.unusedVariables false
set_option linter.unusedSimpArgs false

theorem and_t {a b : Bool} (h : a = true) (k : b = true) : (a && b) = true := by rw [h, k]; rfl
set_option maxHeartbeats 2000000 in
theorem closedFacts : joinedFacts Tryd.prog 3 Tryd.f3 Rows.fnMatchLongSpec Rows.fnMatchLongRow = true := by
  unfold joinedFacts
  iterate 31 (refine and_t ?_ ?_; rotate_left; (focus as_aux_lemma => kernel_rfl))
  kernel_rfl

theorem over3 : Rows.FnMatchLongSaid :=
  OpenClaim.holds_of_wide 3 Tryd.f3 rfl rfl rfl rfl rfl rfl rfl ⟨rfl, rfl, rfl, rfl, rfl⟩ rfl rfl rfl rfl rfl (by kernel_rfl) Tryd.func3 closedFacts
    (of_decide_eq_true (by kernel_rfl)) (by unfold Func.isWrapper; first | (rw [if_pos (by decide +kernel)]; kernel_rfl) | (rw [if_neg (by decide +kernel)]; exact ⟨rfl, rfl⟩))
    (fun os started H enc _ => lifted3 os started H enc)

end Go.Proofs.YtdkdpdkmkabbaaaDoor
namespace Go.Proofs.YtdkdpdkmkabbaaaDoor
open Go.ChangeShapes Go.WideShapes Go.ChangeAt Go.RowKit
set_option linter.unusedVariables false
set_option linter.unusedSimpArgs false

theorem matchLongDrawn_card : Rows.FnMatchLongCardSaid :=
  Claim7.holds_tied_plain_at .later [] [.sentinel] true Rows.fnMatchLongCard.stood.harness false
    over3 (fun _ h => by cases h) (by kernel_rfl) (fun _ h => by cases h) fnMatchLong_row_tie rfl ⟨rfl, rfl⟩ (by kernel_rfl) rfl
    (fun f fn hf hfn => by
      obtain rfl : f = 3 := Option.some.inj ((show Tryd.prog.funcNamed Rows.fnMatchLongRow.func = some 3 by kernel_rfl).symm.trans hf) |>.symm
      obtain rfl : fn = Tryd.f3 := (Option.some.inj (Tryd.func3.symm.trans hfn)).symm
      exact ⟨by kernel_rfl, fun j t ht => by
        rw [Tryd.params3] at ht
        have hm : t ∈ [22] := by simpa using Array.mem_of_getElem? ht
        have hall : ([22].all fun u => !Tryd.prog.wantsStandIn u) = true := by kernel_rfl
        exact (show Tryd.prog.wantsStandIn t = false by simpa using List.all_eq_true.1 hall t hm)⟩)
    (by kernel_rfl)
end Go.Proofs.YtdkdpdkmkabbaaaDoor

