/- A call of a Go function as one step of a region that draws. -/
import Derived.Test.YtolddecfibdblaaDoorDe
import Derived.Deep.RegionLaw
import Derived.Shelf.Abstract
namespace Go.Proofs.YtolddecfibdblaaDoor
open Go.RowKit
set_option linter.unusedVariables false
set_option linter.unusedSimpArgs false

/-- a set of n spans lies in memory -/
def SetIn (B : Nat → Prop) (w : World) (v : Value) (n : Nat) (L H : Nat → Int) : Prop := ∃ (a : Option Addr) (b off cap : Nat), v = .slice a n cap ∧ (0 < n → a = some ⟨b, off, none⟩ ∧ B b) ∧ Sp w b off n L H
theorem SetIn.of_row {w w' : World} {base : Nat} {v : Value} {R : List (Nat × Nat)} (h : w'.ownsRow base 87 2 v R.length (cellsR R)) : ∃ L H, SetIn (fun k => base ≤ k ∧ Soft w' k) w' v R.length L H := by
  rcases h.2 with ⟨rfl, h0⟩ | ⟨g, cap, cur, rfl, h1, h2, h3, h4, h5, h6⟩
  · exact ⟨fun _ => 0, fun _ => 0, none, 0, 0, 0, by rw [h0], fun hh => by omega, fun i hi => by omega⟩
  · refine ⟨fun i => ((R[i]?).getD (0, 0)).1, fun i => ((R[i]?).getD (0, 0)).2, some ⟨g, 0, none⟩, g, 0, cap, rfl, fun _ => ⟨rfl, h1, cur, 87, h2⟩, fun i hi => ?_⟩
    have hc : ∀ (R : List (Nat × Nat)) (i : Nat), i < R.length → (cellsR R)[i * 2]? = some (.int .i64 ((((R[i]?).getD (0, 0)).1 : Nat) : Int)) ∧ (cellsR R)[i * 2 + 1]? = some (.int .i64 ((((R[i]?).getD (0, 0)).2 : Nat) : Int)) := by
      intro R
      induction R with
      | nil => intro i hi; simp at hi
      | cons x R ih =>
        intro i hi
        have e : cellsR (x :: R) = .int .i64 (x.1 : Int) :: .int .i64 (x.2 : Int) :: cellsR R := rfl
        cases i with
        | zero => rw [e]; exact ⟨rfl, rfl⟩
        | succ i =>
          have := ih i (by simpa using hi)
          rw [e, show (i + 1) * 2 = i * 2 + 2 by omega, show i * 2 + 2 + 1 = (i * 2 + 1) + 2 by omega]
          simpa using this
    have a1 := World.ownsRow.cellAt h (i * 2) (by omega)
    have a2 := World.ownsRow.cellAt h (i * 2 + 1) (by omega)
    rw [(hc R i hi).1] at a1
    rw [(hc R i hi).2] at a2
    exact ⟨by simpa using a1, by simpa using a2⟩

end Go.Proofs.YtolddecfibdblaaDoor
namespace Go.Proofs.YtolddecfibdblaaDoor
open Go.RowKit Go.Shelf
set_option linter.unusedVariables false
set_option linter.unusedSimpArgs false

theorem step_call2 {ops : Array Oper} {o : Oper} {a : Act} {w : World} {K : Act → World → Prop} {Q : Exit → Act → World → Prop} {E : Prop}
    (hg : o.guard = none) (f : FuncId) (x y : Operand) (t1 t2 : TypeId) (hop : o.op = Op.call { callee := Callee.value (Operand.func f), args := #[x, y], argTypes := #[t1, t2] })
    (hent : ∀ args w, (callFunc f args).run Tryd.prog w = .ok (.enter f args) w) (u v : Value) (hx : a.eval x = u) (hy : a.eval y = v) {R : Ending → World → Prop} (hc : Calls Tryd.prog f #[u, v] w R)
    (hret : ∀ e w', R e w' → ∃ r, e = .returned r) (hK : ∀ r w', R (.returned r) w' → K (a.put o.dst r) w') :
    if Region.wanted o (yielded ops a.tmps) = true then Oper.wp Tryd.prog o a w K Q else E := by
  have hw : Region.wanted o (yielded ops a.tmps) = true := by simp [Region.wanted, hg]
  rw [if_pos hw]
  have hrun : (execOp a.eval o).run Tryd.prog w = .ok (.enter f #[u, v]) w := by
    have hf : a.eval (Operand.func f) = Value.func (Fn.func f) #[] #[] := rfl
    simp [execOp, hop, resolve, invoke, hx, hy, hf, hent, Deferred.ofValue]
  unfold Oper.wp
  rw [hrun, Oper.upon_enter]
  refine hc.mono (fun e w' h => ?_)
  obtain ⟨r, rfl⟩ := hret e w' h
  exact hK r w' h
theorem step_call1 {ops : Array Oper} {o : Oper} {a : Act} {w : World} {K : Act → World → Prop} {Q : Exit → Act → World → Prop} {E : Prop}
    (hg : o.guard = none) (f : FuncId) (x : Operand) (t1 : TypeId) (hop : o.op = Op.call { callee := Callee.value (Operand.func f), args := #[x], argTypes := #[t1] })
    (hent : ∀ args w, (callFunc f args).run Tryd.prog w = .ok (.enter f args) w) (u : Value) (hx : a.eval x = u) {R : Ending → World → Prop} (hc : Calls Tryd.prog f #[u] w R)
    (hret : ∀ e w', R e w' → ∃ r, e = .returned r) (hK : ∀ r w', R (.returned r) w' → K (a.put o.dst r) w') :
    if Region.wanted o (yielded ops a.tmps) = true then Oper.wp Tryd.prog o a w K Q else E := by
  have hw : Region.wanted o (yielded ops a.tmps) = true := by simp [Region.wanted, hg]
  rw [if_pos hw]
  have hrun : (execOp a.eval o).run Tryd.prog w = .ok (.enter f #[u]) w := by
    have hf : a.eval (Operand.func f) = Value.func (Fn.func f) #[] #[] := rfl
    simp [execOp, hop, resolve, invoke, hx, hf, hent, Deferred.ofValue]
  unfold Oper.wp
  rw [hrun, Oper.upon_enter]
  refine hc.mono (fun e w' h => ?_)
  obtain ⟨r, rfl⟩ := hret e w' h
  exact hK r w' h
end Go.Proofs.YtolddecfibdblaaDoor

