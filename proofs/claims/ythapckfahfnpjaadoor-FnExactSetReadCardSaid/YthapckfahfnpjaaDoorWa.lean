/- small walks -/
import Derived.Test.YthapckfahfnpjaaDoorBase
namespace Go.Proofs.YthapckfahfnpjaaDoor
open Go.RowKit
set_option linter.unusedVariables false
set_option linter.unusedSimpArgs false

theorem eqSpan_bool (x y z t : Int) (h1 : (x != z) = false) (h2 : (y != t) = false) : (x == z && y == t) = true := by
  simp at h1 h2; simp [h1, h2]
theorem eqSpan_boolA (x y z t : Int) (h1 : (x != z) = true) : (x == z && y == t) = false := by
  simp at h1; simp [h1]
theorem eqSpan_boolB (x y z t : Int) (h2 : (y != t) = true) : (x == z && y == t) = false := by
  simp at h2; simp [h2]

set_option maxHeartbeats 400000 in
theorem eqSpan_any (x y z t : Int) (w : World) :
    Calls Tryd.prog 18 #[.agg #[.int .i64 x, .int .i64 y], .agg #[.int .i64 z, .int .i64 t]] w fun e w' => e = .returned (.bool (x == z && y == t)) ∧ Below w.heap.size w w' := by
  go_enter Tryd.func18, Tryd.ntmps18
  go_wp2
  · go_ret
    exact ⟨ret_bool (eqSpan_boolA _ _ _ _ ‹_›).symm, by repeat (first | exact Below.refl _ _ | refine Below.alloc ?_ (by simp <;> omega) _)⟩
  · go_ret
    exact ⟨ret_bool (eqSpan_boolB _ _ _ _ ‹_›).symm, by repeat (first | exact Below.refl _ _ | refine Below.alloc ?_ (by simp <;> omega) _)⟩
  · go_ret
    exact ⟨ret_bool (eqSpan_bool _ _ _ _ ‹_› ‹_›).symm, by repeat (first | exact Below.refl _ _ | refine Below.alloc ?_ (by simp <;> omega) _)⟩

theorem Tryd.info34 : (Tryd.prog.info? 34).map (fun i => (i.zero, i.size, i.bytes)) = some (some (.agg #[.int .i64 0, .int .i64 0]), 2, 16) := by kernel_rfl

end Go.Proofs.YthapckfahfnpjaaDoor

