/- A call of a Go function as one step of a region that draws. -/
import Derived.Test.YtolddecfibdblaaDoorDf
import Derived.Deep.RegionLaw
import Derived.Shelf.Abstract
namespace Go.Proofs.YtolddecfibdblaaDoor
open Go.RowKit Go.Shelf
set_option linter.unusedVariables false
set_option linter.unusedSimpArgs false

theorem step_call2 {ops : Array Oper} {o : Oper} {a : Act} {w : World} {K : Act → World → Prop} {Q : Exit → Act → World → Prop} {E : Prop}
    (hg : o.guard = none) (f : FuncId) (x y : Operand) (t1 t2 : TypeId) (hop : o.op = Op.call { callee := Callee.value (Operand.func f), args := #[x, y], argTypes := #[t1, t2] })
    (hent : ∀ args w, (callFunc f args).run Tryd.prog w = .ok (.enter f args) w) (u v : Value) (hx : a.eval x = u) (hy : a.eval y = v) {R : Ending → World → Prop} (hc : Calls Tryd.prog f #[u, v] w R)
    (hret : ∀ e w', R e w' → ∃ r, e = .returned r) (hK : ∀ r w', R (.returned r) w' → K (a.put o.dst r) w') :
    if Region.wanted o (yielded ops a.tmps) = true then Oper.wp Tryd.prog o a w K Q else E := by
  have hw : Region.wanted o (yielded ops a.tmps) = true := by simp [Region.wanted, hg]
  rw [if_pos hw]
  have hrun : (execOp a.eval o).run Tryd.prog w = .ok (.enter f #[u, v]) w := by
    have hf : a.eval (Operand.func f) = Value.func (Fn.func f) #[] #[] := rfl
    simp [execOp, hop, resolve, invoke, hx, hy, hf, hent, Deferred.ofValue]
  unfold Oper.wp
  rw [hrun, Oper.upon_enter]
  refine hc.mono (fun e w' h => ?_)
  obtain ⟨r, rfl⟩ := hret e w' h
  exact hK r w' h
theorem step_call1 {ops : Array Oper} {o : Oper} {a : Act} {w : World} {K : Act → World → Prop} {Q : Exit → Act → World → Prop} {E : Prop}
    (hg : o.guard = none) (f : FuncId) (x : Operand) (t1 : TypeId) (hop : o.op = Op.call { callee := Callee.value (Operand.func f), args := #[x], argTypes := #[t1] })
    (hent : ∀ args w, (callFunc f args).run Tryd.prog w = .ok (.enter f args) w) (u : Value) (hx : a.eval x = u) {R : Ending → World → Prop} (hc : Calls Tryd.prog f #[u] w R)
    (hret : ∀ e w', R e w' → ∃ r, e = .returned r) (hK : ∀ r w', R (.returned r) w' → K (a.put o.dst r) w') :
    if Region.wanted o (yielded ops a.tmps) = true then Oper.wp Tryd.prog o a w K Q else E := by
  have hw : Region.wanted o (yielded ops a.tmps) = true := by simp [Region.wanted, hg]
  rw [if_pos hw]
  have hrun : (execOp a.eval o).run Tryd.prog w = .ok (.enter f #[u]) w := by
    have hf : a.eval (Operand.func f) = Value.func (Fn.func f) #[] #[] := rfl
    simp [execOp, hop, resolve, invoke, hx, hf, hent, Deferred.ofValue]
  unfold Oper.wp
  rw [hrun, Oper.upon_enter]
  refine hc.mono (fun e w' h => ?_)
  obtain ⟨r, rfl⟩ := hret e w' h
  exact hK r w' h
end Go.Proofs.YtolddecfibdblaaDoor

