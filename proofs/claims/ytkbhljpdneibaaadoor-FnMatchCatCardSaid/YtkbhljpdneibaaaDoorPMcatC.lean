/- Whatever is drawn, two texts that are like two are like one behind the other, and some in a row that are like one are like any number of it, the package's one error being as the program's text lays it. -/
import Derived.Test.YtkbhljpdneibaaaDoorPMcatA
import Derived.Test.YtkbhljpdneibaaaDoorTie
import Derived.Test.YtkbhljpdneibaaaDoorCards
import Derived.LaidMore
import Derived.Lib.LaidTab
import Derived.Stop.Joined
import Derived.Stop.LaidErr
import Derived.SevenTiedAt
import Derived.Lay
import Derived.ChangeMaps5
import Derived.ChangeVars
namespace Go.Proofs.YtkbhljpdneibaaaDoor
open Go.ChangeShapes Go.WideShapes Go.ChangeAt Go.RowKit
set_option linter.unusedVariables false
set_option linter.unusedSimpArgs false

theorem and_t {a b : Bool} (h : a = true) (k : b = true) : (a && b) = true := by rw [h, k]; rfl
set_option maxHeartbeats 2000000 in
theorem closedFacts : joinedFacts Tryd.prog 5 Tryd.f5 Rows.fnMatchCatSpec Rows.fnMatchCatRow = true := by
  unfold joinedFacts
  iterate 31 (refine and_t ?_ ?_; rotate_left; (focus as_aux_lemma => kernel_rfl))
  kernel_rfl

theorem over3 : Rows.FnMatchCatSaid :=
  OpenClaim.holds_of_wide 5 Tryd.f5 rfl rfl rfl rfl rfl rfl rfl ⟨rfl, rfl, rfl, rfl, rfl⟩ rfl rfl rfl rfl rfl (by kernel_rfl) Tryd.func5 closedFacts
    (of_decide_eq_true (by kernel_rfl)) (by unfold Func.isWrapper; first | (rw [if_pos (by decide +kernel)]; kernel_rfl) | (rw [if_neg (by decide +kernel)]; exact ⟨rfl, rfl⟩))
    (fun os started H enc _ => lifted3 os started H enc)

end Go.Proofs.YtkbhljpdneibaaaDoor
namespace Go.Proofs.YtkbhljpdneibaaaDoor
open Go.ChangeShapes Go.WideShapes Go.ChangeAt Go.RowKit
set_option linter.unusedVariables false
set_option linter.unusedSimpArgs false

theorem matchCat_card : Rows.FnMatchCatCardSaid :=
  Claim7.holds_tied_plain_at .later [] [.sentinel] true Rows.fnMatchCatCard.stood.harness false
    over3 (fun _ h => by cases h) (by kernel_rfl) (fun _ h => by cases h) fnMatchCat_row_tie rfl ⟨rfl, rfl⟩ (by kernel_rfl) rfl
    (fun f fn hf hfn => by
      obtain rfl : f = 5 := Option.some.inj ((show Tryd.prog.funcNamed Rows.fnMatchCatRow.func = some 5 by kernel_rfl).symm.trans hf) |>.symm
      obtain rfl : fn = Tryd.f5 := (Option.some.inj (Tryd.func5.symm.trans hfn)).symm
      exact ⟨by kernel_rfl, fun j t ht => by
        rw [Tryd.params5] at ht
        have hm : t ∈ [22, 22] := by simpa using Array.mem_of_getElem? ht
        have hall : ([22, 22].all fun u => !Tryd.prog.wantsStandIn u) = true := by kernel_rfl
        exact (show Tryd.prog.wantsStandIn t = false by simpa using List.all_eq_true.1 hall t hm)⟩)
    (by kernel_rfl)
end Go.Proofs.YtkbhljpdneibaaaDoor

