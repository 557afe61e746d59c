/- the walk of the law of SetRead -/
import Derived.Test.YthapckfahfnpjaaDoorZf
namespace Go.Proofs.YthapckfahfnpjaaDoor
open Go.RowKit
set_option linter.unusedVariables false
set_option linter.unusedSimpArgs false

set_option maxRecDepth 100000 in
set_option maxHeartbeats 2000000 in
theorem law5 (s : ByteArray) (hs : s.size ≤ 9223372036854775807) (w : World) (hE : Env w) :
    Calls Tryd.prog 3 #[.string s] w fun e w' => e = .returned (.bool true) ∧ Below w.heap.size w w' := by
  by_cases hbig : 1048576 < s.size
  · have hbz : (1048576 : Int) < (s.size : Int) := by omega
    go_enter Tryd.func3, Tryd.ntmps3
    go_wp2
    go_ret
    exact ⟨rfl, Below.refl _ _⟩
  · have hbz : ¬ ((1048576 : Int) < (s.size : Int)) := by omega
    have hsm : s.size ≤ 1048576 := by omega
    go_enter Tryd.func3, Tryd.ntmps3
    go_wp2_with fail
    refine (specSetRead_any s hsm _).mono ?_
    rintro e w1 ⟨v0, R, ok, rfl, ho1, hRl, hb1, hans⟩
    have HANS : Hid (Ans (tx s) R ok) := hans
    clear hans
    go_wp2_with fail
    refine (implSetRead_any s hsm _ (hE.below hb1)).mono ?_
    rintro e w2 ⟨g0, R', ok', rfl, hg2, _, hb2, hans'⟩
    obtain ⟨rfl, rfl⟩ := Ans.unique HANS.out hans'
    clear hans'
    have hB2 := hb1.trans (hb2.mono hb1.size)
    have ho2 := own_below ho1 hb2
    have hoo : (ok' != ok') = false := by simp
    go_wp2_with fail
    refine (eqV_any _ hg2 ho2 (by omega)).mono ?_
    rintro e w3 ⟨rfl, hb3⟩
    have hB3 := hB2.trans (hb3.mono hB2.size)
    have ho3 := own_below ho2 hb3
    have hg3 := own_below hg2 hb3
    -- marks into the answer
    go_wp2_with fail
    refine (mark_any _ R'.length _ _ 1 _ hg3 (by omega) (by omega) (by omega)).mono ?_
    rintro e w4 ⟨rfl, hm4, hgr4⟩
    have ho4 := ho3.kept hgr4 (own_apart ho1 hg3 (Nat.le_refl _))
    have hB4 : Below w.heap.size w w4 := hB3.grown hgr4 hB3.size (fun k e => Nat.le_trans hb1.size (hg3.lt k e).1)
    clear ho3 hg3 ho2
    go_wp2_with fail
    refine (held_any _ R'.length _ 1 _ hm4 (by omega) (by omega) (by omega)).mono ?_
    rintro e w5 ⟨rfl, hw5⟩
    subst w5
    have hq1 : ¬ (1 + 2 * (R'.length : Int) < 0) := by omega
    have hq2 : ((1 + 2 * (R'.length : Int)) != (1 + 2 * (R'.length : Int))) = false := by simp
    -- the program is asked once more
    go_wp2_with fail
    refine (implSetRead_any s hsm _ (hE.below hB4)).mono ?_
    rintro e w6 ⟨h0, R2, ok2, rfl, hh6, _, hb6, hans2⟩
    obtain ⟨hR2, hok2⟩ := Ans.unique HANS.out hans2
    rw [hR2] at hh6
    subst hok2
    clear hans2 hR2
    have hB6 := hB4.trans (hb6.mono hB4.size)
    have ho6 := own_below ho4 hb6
    have hm6 := own_below hm4 hb6
    clear ho4 hm4
    go_wp2_with fail
    refine (eqV_any _ hh6 ho6 (by omega)).mono ?_
    rintro e w7 ⟨rfl, hb7⟩
    have hB7 := hB6.trans (hb7.mono hB6.size)
    have hm7 := own_below hm6 hb7
    go_wp2_with fail
    refine (held_any _ R'.length _ 1 _ hm7 (by omega) (by omega) (by omega)).mono ?_
    rintro e w8 ⟨rfl, hw8⟩
    subst w8
    go_wp2
    go_ret
    exact ⟨rfl, hB7⟩
end Go.Proofs.YthapckfahfnpjaaDoor

