/- sets of bits in a row, and a list of them cut by a set; no Go text is walked here. -/
import Derived.Test.YtjpmdbaalhieoaaDoorBg
import Derived.Test.YtjpmdbaalhieoaaDoorJi
import Derived.OwnWalk
import Derived.Laws.StructEq
namespace Go.Proofs.YtjpmdbaalhieoaaDoor
open Go.RowKit
set_option linter.unusedVariables false
set_option linter.unusedSimpArgs false

/-- the cells of sets of bits -/
def cellsB (P : List (Nat → Bool)) : List Value := P.flatMap fun B => [wc B 0, wc B 1, wc B 2, wc B 3]
theorem cellsB_snoc (P : List (Nat → Bool)) (B : Nat → Bool) : cellsB (P ++ [B]) = cellsB P ++ [wc B 0, wc B 1, wc B 2, wc B 3] := by simp [cellsB]
theorem cellsB_get (P : List (Nat → Bool)) (i : Nat) (h : i < P.length) : (cellsB P)[i * 4]? = some (wc P[i] 0) ∧ (cellsB P)[i * 4 + 1]? = some (wc P[i] 1) ∧ (cellsB P)[i * 4 + 2]? = some (wc P[i] 2) ∧ (cellsB P)[i * 4 + 3]? = some (wc P[i] 3) := by
  induction P generalizing i with
  | nil => simp at h
  | cons p R ih =>
    have e : cellsB (p :: R) = [wc p 0, wc p 1, wc p 2, wc p 3] ++ cellsB R := by simp [cellsB]
    cases i with
    | zero => simp [e]
    | succ i =>
      have := ih i (by simpa using h)
      rw [e, List.getElem?_append_right (by simp; omega), List.getElem?_append_right (by simp; omega), List.getElem?_append_right (by simp; omega), List.getElem?_append_right (by simp; omega)]
      simp only [List.length_cons, List.length_nil]
      rw [show (i + 1) * 4 - (0 + 1 + 1 + 1 + 1) = i * 4 by omega, show (i + 1) * 4 + 1 - (0 + 1 + 1 + 1 + 1) = i * 4 + 1 by omega, show (i + 1) * 4 + 2 - (0 + 1 + 1 + 1 + 1) = i * 4 + 2 by omega, show (i + 1) * 4 + 3 - (0 + 1 + 1 + 1 + 1) = i * 4 + 3 by omega]
      simpa using this
theorem Tryd.infoBits : (Tryd.prog.info? 40).map (fun i => (i.zero, i.size, i.bytes)) = some (some (.agg #[.int .u64 0, .int .u64 0, .int .u64 0, .int .u64 0]), 4, 32) := by kernel_rfl

/-- a set has a byte -/
def anyB (B : Nat → Bool) : Bool := (List.range 256).any B
theorem anyB_false {B : Nat → Bool} (h : anyB B = false) : ∀ x, x < 256 → B x = false := by
  intro x hx
  simp only [anyB, List.any_eq_false, List.mem_range] at h
  simpa using h x hx
theorem anyB_true {B : Nat → Bool} (h : anyB B = true) : ∃ x, x < 256 ∧ B x = true := by
  simpa [anyB, List.any_eq_true] using h
/-- a part cut by a set -/
def cut2 (S A : Nat → Bool) : List (Nat → Bool) := (if anyB (fun x => A x && S x) then [fun x => A x && S x] else []) ++ (if anyB (fun x => A x && !S x) then [fun x => A x && !S x] else [])
/-- parts cut by a set -/
def splitL (S : Nat → Bool) (P : List (Nat → Bool)) : List (Nat → Bool) := P.flatMap (cut2 S)
theorem cut2_len (S A : Nat → Bool) : (cut2 S A).length ≤ 2 := by
  unfold cut2
  split <;> split <;> simp
theorem splitL_snoc (S : Nat → Bool) (P : List (Nat → Bool)) (A : Nat → Bool) : splitL S (P ++ [A]) = splitL S P ++ cut2 S A := by simp [splitL]
theorem splitL_len (S : Nat → Bool) (P : List (Nat → Bool)) : (splitL S P).length ≤ 2 * P.length := by
  induction P with
  | nil => simp [splitL]
  | cons A P ih =>
    have := cut2_len S A
    simp [splitL] at ih ⊢
    omega

theorem none_any {B : Nat → Bool} : sameB B (fun _ => false) = !anyB B := by
  cases h : anyB B
  · rw [Bool.not_false, sameB_iff]
    exact anyB_false h
  · rw [Bool.not_true, ← Bool.not_eq_true]
    intro g
    obtain ⟨x, hx, hb⟩ := anyB_true h
    rw [sameB_iff] at g
    rw [g x hx] at hb
    cases hb
end Go.Proofs.YtjpmdbaalhieoaaDoor

