/- The row of: At every argument LexText answers as its model says, and it changes no argument, the library's three tables being as the program's text lays it. -/
import Derived.Test.YtndjblfenijjbaaDoorPXtxtA
namespace Go.Proofs.YtndjblfenijjbaaDoor
open Go.ChangeShapes Go.WideShapes Go.ChangeAt Go.RowKit
set_option linter.unusedVariables false
set_option linter.unusedSimpArgs false

theorem and_t {a b : Bool} (h : a = true) (k : b = true) : (a && b) = true := by rw [h, k]; rfl
set_option maxHeartbeats 2000000 in
theorem closedFacts : joinedFacts Tryd.prog 3 Tryd.f3 Rows.fnExactLexTextSpec Rows.fnExactLexTextRow = true := by
  unfold joinedFacts
  iterate 31 (refine and_t ?_ ?_; rotate_left; (focus as_aux_lemma => kernel_rfl))
  kernel_rfl

theorem over3 : Rows.FnExactLexTextSaid :=
  OpenClaim.holds_of_wide 3 Tryd.f3 rfl rfl rfl rfl rfl rfl rfl ⟨rfl, rfl, rfl, rfl, rfl⟩ rfl rfl rfl rfl rfl (by kernel_rfl) Tryd.func3 closedFacts
    (of_decide_eq_true (by kernel_rfl)) (by unfold Func.isWrapper; first | (rw [if_pos (by decide +kernel)]; kernel_rfl) | (rw [if_neg (by decide +kernel)]; exact ⟨rfl, rfl⟩))
    (fun os started H enc _ => lifted3 os started H enc)

end Go.Proofs.YtndjblfenijjbaaDoor

