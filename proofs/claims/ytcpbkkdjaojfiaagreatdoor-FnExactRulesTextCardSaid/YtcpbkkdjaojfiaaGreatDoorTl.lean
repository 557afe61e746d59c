/- the methods of the kinds, found by their name -/
import Derived.Test.YtcpbkkdjaojfiaaGreatDoorTj
namespace Go.Proofs.YtcpbkkdjaojfiaaGreatDoor
open Go.RowKit Go.Shelf
set_option linter.unusedVariables false
set_option linter.unusedSimpArgs false

/-- the name of the first method that is called through an interface in a piece of code -/
def invOps (ops : List Oper) : Option String := ops.findSome? fun o => match o.op with
  | .call c => (match c.callee with | .invoke _ nm => some nm | _ => none)
  | _ => none
def invCode : Code → Option String
  | .region _ ops _ => invOps ops.toList
  | .seq x y => match invCode x with | some s => some s | none => invCode y
  | .block _ c => invCode c
  | .rangeFunc _ _ _ b => invCode b
  | _ => none

theorem meth_kids (k : Int) (h : kidsOf k ≠ -1) (nm : String) (hn : nm = (Tryz.f60.body.bind invCode).getD "") (w : World) : (method 297 (kindT k) (.agg #[]) nm).run Tryz.prog w = .ok (kidsF k, .agg #[]) w := by
  subst hn
  rcases kind_cases h with rfl | rfl | rfl | rfl | rfl | rfl | rfl
  all_goals kernel_rfl
theorem enter_kids (k : Int) (h : kidsOf k ≠ -1) (args : Array Value) (w : World) : (callFunc (kidsF k) args).run Tryz.prog w = .ok (.enter (kidsF k) args) w := by
  rcases kind_cases h with rfl | rfl | rfl | rfl | rfl | rfl | rfl
  · exact enters_of Tryz.func107 (by kernel_rfl) rfl args w
  · exact enters_of Tryz.func111 (by kernel_rfl) rfl args w
  · exact enters_of Tryz.func115 (by kernel_rfl) rfl args w
  · exact enters_of Tryz.func119 (by kernel_rfl) rfl args w
  · exact enters_of Tryz.func123 (by kernel_rfl) rfl args w
  · exact enters_of Tryz.func127 (by kernel_rfl) rfl args w
  · exact enters_of Tryz.func131 (by kernel_rfl) rfl args w
end Go.Proofs.YtcpbkkdjaojfiaaGreatDoor

