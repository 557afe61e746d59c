/- the bytes of a text, as a list -/
import Derived.Test.YtcpbkkdjaojfiaaGreatDoorBase
namespace Go.Proofs.YtcpbkkdjaojfiaaGreatDoor
open Go.RowKit
set_option linter.unusedVariables false
set_option linter.unusedSimpArgs false

def tx (s : ByteArray) : List UInt8 := s.data.toList
theorem tx_size (s : ByteArray) : s.size = (tx s).length := (Array.length_toList).symm
theorem tx_append (a b : ByteArray) : tx (a ++ b) = tx a ++ tx b := by simp [tx, ByteArray.data_append]
theorem size_of {s : ByteArray} {l : List UInt8} {m : Nat} (h : tx s = l) (hl : l.length ≤ m) : s.size ≤ m := by rw [tx_size, h]; exact hl
end Go.Proofs.YtcpbkkdjaojfiaaGreatDoor

