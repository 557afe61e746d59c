/- the walks of markSpanS and heldSpanS, and of eqSpanS over rows of runs -/
import Derived.Test.YtolddecfibdblaaDoorPan
import Derived.RangeFuncBox
import Derived.OwnWalk
namespace Go.Proofs.YtolddecfibdblaaDoor
open Go.RowKit
set_option linter.unusedVariables false
set_option linter.unusedSimpArgs false

/-- m numbers from k on -/
def markL (k : Int) (m : Nat) : List Value := (List.range m).map fun (j : Nat) => Value.int .i64 (k + (j : Int))
theorem markL_length (k : Int) (m : Nat) : (markL k m).length = m := by simp [markL]
theorem markL_get (k : Int) (m j : Nat) (h : j < m) : (markL k m)[j]? = some (.int .i64 (k + (j : Int))) := by simp [markL, h]
theorem markL_set (k : Int) (xs : List Value) (m : Nat) (h : m < xs.length) : (markL k m ++ xs.drop m).set m (.int .i64 (k + (m : Int))) = markL k (m + 1) ++ xs.drop (m + 1) := by
  rw [List.set_append_right _ _ (by rw [markL_length]; omega), markL_length, Nat.sub_self]
  have e : xs.drop m = xs[m] :: xs.drop (m + 1) := List.drop_eq_getElem_cons h
  rw [e, List.set_cons_zero]
  simp [markL, List.range_succ]

theorem grown_trans {a b c : World} {r : Option Nat} (h : a.grownBy b r) (k : b.grownBy c r) : a.grownBy c r :=
  ⟨k.os.trans h.os, k.tape.trans h.tape, k.output.trans h.output, Nat.le_trans h.size k.size, fun j hj hr => (k.block j (Nat.lt_of_lt_of_le hj h.size) hr).trans (h.block j hj hr)⟩

/-- the two ends of span i -/
def rl (R : List (Int × Int)) (i : Nat) : Int := (R.getD i (0, 0)).1
end Go.Proofs.YtolddecfibdblaaDoor

