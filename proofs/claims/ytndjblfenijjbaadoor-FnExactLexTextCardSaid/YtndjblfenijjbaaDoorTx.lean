/- the bytes of a text, as a list -/
import Derived.Test.YtndjblfenijjbaaDoorBase
namespace Go.Proofs.YtndjblfenijjbaaDoor
open Go.RowKit
set_option linter.unusedVariables false
set_option linter.unusedSimpArgs false

def tx (s : ByteArray) : List UInt8 := s.data.toList
theorem tx_size (s : ByteArray) : s.size = (tx s).length := (Array.length_toList).symm
theorem tx_append (a b : ByteArray) : tx (a ++ b) = tx a ++ tx b := by simp [tx, ByteArray.data_append]
theorem tx_inj {a b : ByteArray} (h : tx a = tx b) : a = b := ByteArray.ext (Array.toList_inj.1 h)
theorem size_of {s : ByteArray} {l : List UInt8} {m : Nat} (h : tx s = l) (hl : l.length ≤ m) : s.size ≤ m := by rw [tx_size, h]; exact hl
end Go.Proofs.YtndjblfenijjbaaDoor

