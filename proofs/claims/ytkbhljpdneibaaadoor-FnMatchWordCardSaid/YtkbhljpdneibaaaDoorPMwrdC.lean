/- Whatever is drawn, a text that is too long is like nothing, not even like all others, the package's one error being as the program's text lays it. -/
import Derived.Test.YtkbhljpdneibaaaDoorPMwrdB
import Derived.Test.YtkbhljpdneibaaaDoorTie
import Derived.Test.YtkbhljpdneibaaaDoorCards
import Derived.LaidMore
import Derived.Lib.LaidTab
import Derived.Stop.Joined
import Derived.Stop.LaidErr
import Derived.SevenTiedAt
import Derived.Lay
import Derived.ChangeMaps5
import Derived.ChangeVars
namespace Go.Proofs.YtkbhljpdneibaaaDoor
open Go.ChangeShapes Go.WideShapes Go.ChangeAt Go.RowKit
set_option linter.unusedVariables false
set_option linter.unusedSimpArgs false

theorem matchWordDrawn_card : Rows.FnMatchWordCardSaid :=
  Claim7.holds_tied_plain_at .later [] [.sentinel] true Rows.fnMatchWordCard.stood.harness false
    over3 (fun _ h => by cases h) (by kernel_rfl) (fun _ h => by cases h) fnMatchWord_row_tie rfl ⟨rfl, rfl⟩ (by kernel_rfl) rfl
    (fun f fn hf hfn => by
      obtain rfl : f = 6 := Option.some.inj ((show Tryd.prog.funcNamed Rows.fnMatchWordRow.func = some 6 by kernel_rfl).symm.trans hf) |>.symm
      obtain rfl : fn = Tryd.f6 := (Option.some.inj (Tryd.func6.symm.trans hfn)).symm
      exact ⟨by kernel_rfl, fun j t ht => by
        rw [Tryd.params6] at ht
        have hm : t ∈ [22, 22] := by simpa using Array.mem_of_getElem? ht
        have hall : ([22, 22].all fun u => !Tryd.prog.wantsStandIn u) = true := by kernel_rfl
        exact (show Tryd.prog.wantsStandIn t = false by simpa using List.all_eq_true.1 hall t hm)⟩)
    (by kernel_rfl)
end Go.Proofs.YtkbhljpdneibaaaDoor

