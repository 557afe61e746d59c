/- the text of a span -/
import Derived.Test.YthapckfahfnpjaaDoorVr
namespace Go.Proofs.YthapckfahfnpjaaDoor
open Go.RowKit
set_option linter.unusedVariables false
set_option linter.unusedSimpArgs false

/-- a number of 64 bits -/
def In64 (x : Int) : Prop := -9223372036854775808 ≤ x ∧ x ≤ 9223372036854775807

/-- the text of a span -/
def spanT (x y : Int) : List UInt8 := if y = x then Lib.itoa x else Lib.itoa x ++ [45] ++ Lib.itoa y
theorem itoa_len (n : Int) (h : In64 n) : (Lib.itoa n).length ≤ 21 := Lib.itoa_length_le n h.1 h.2
theorem spanT_len (x y : Int) (hx : In64 x) (hy : In64 y) : (spanT x y).length ≤ 43 := by
  have h1 := itoa_len x hx
  have h2 := itoa_len y hy
  unfold spanT
  split
  · omega
  · simp; omega

theorem un_drew {B : Nat} {a b : World} (h : Below B a.drew b) : Below B a b := ⟨h.os, h.tape, h.output, h.size, h.block⟩

end Go.Proofs.YthapckfahfnpjaaDoor

