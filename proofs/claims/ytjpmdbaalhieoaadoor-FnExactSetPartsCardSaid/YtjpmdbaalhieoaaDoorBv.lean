/- how the parts are ordered: by their first bytes -/
import Derived.Test.YtjpmdbaalhieoaaDoorBf
import Derived.Test.YtjpmdbaalhieoaaDoorBs
import Derived.Deep.RegionHeld
namespace Go.Proofs.YtjpmdbaalhieoaaDoor
open Go.RowKit
set_option linter.unusedVariables false
set_option linter.unusedSimpArgs false

/-- what cmp.Compare tells -/
def cmpI (x y : Int) : Int := if x < y then -1 else if y < x then 1 else 0
theorem isNaN_any (x : Int) (w : World) : Calls Tryd.prog 35 #[.int .i64 x] w fun e w' => e = .returned (.bool false) ∧ w' = w := by
  go_enter Tryd.func35, Tryd.ntmps35
  go_wp2_with fail
  go_ret
  simp
theorem compare_any (x y : Int) (w : World) : Calls Tryd.prog 22 #[.int .i64 x, .int .i64 y] w fun e w' => e = .returned (.int .i64 (cmpI x y)) ∧ w' = w := by
  have h1 := isNaN_any x w
  have h2 := isNaN_any y w
  go_enter Tryd.func22, Tryd.ntmps22
  go_wp2_with fail
  refine h1.mono ?_
  rintro e w1 ⟨rfl, e1⟩
  subst w1
  clear h1
  go_wp2_with fail
  refine h2.mono ?_
  rintro e w1 ⟨rfl, e1⟩
  subst w1
  clear h2
  rcases Int.lt_trichotomy x y with h | h | h
  · have hc : cmpI x y = -1 := by simp [cmpI, h]
    go_wp2_with fail
    go_ret
    exact ⟨by rw [hc]; rfl, rfl⟩
  · subst h
    have hc : cmpI x x = 0 := by simp [cmpI]
    have hn : ¬ x < x := by omega
    go_wp2_with fail
    go_ret
    exact ⟨by rw [hc]; rfl, rfl⟩
  · have hc : cmpI x y = 1 := by simp [cmpI, h]; omega
    have hn : ¬ x < y := by omega
    go_wp2_with fail
    go_ret
    exact ⟨by rw [hc]; rfl, rfl⟩
end Go.Proofs.YtjpmdbaalhieoaaDoor

