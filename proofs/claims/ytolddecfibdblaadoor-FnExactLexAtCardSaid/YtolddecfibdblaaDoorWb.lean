/- the walk of eqSpanS -/
import Derived.Test.YtolddecfibdblaaDoorWa
namespace Go.Proofs.YtolddecfibdblaaDoor
open Go.RowKit
set_option linter.unusedVariables false
set_option linter.unusedSimpArgs false

set_option maxHeartbeats 400000 in
theorem eqSpanS_any (a a' : Option Addr) (b off cap n b' off' cap' m : Nat) (L H L' H' : Nat → Int) (w : World) (hga : 0 < n → a = some ⟨b, off, none⟩) (hc : Sp w b off n L H)
    (hga' : 0 < m → a' = some ⟨b', off', none⟩) (hc' : Sp w b' off' m L' H') (hn : n ≤ 4194304) (hm : m ≤ 4194304) :
    Calls Tryd.prog 52 #[.slice a n cap, .slice a' m cap'] w fun e w' => e = .returned (.bool (eqB n L H m L' H')) ∧ Below w.heap.size w w' := by
  by_cases hnm : n = m
  · subst hnm
    have hnn : ((n : Int) != (n : Int)) = false := by simp
    go_enter Tryd.func52, Tryd.ntmps52
    go_wp2
    go_loopw [5] (fun i wr => ∃ k : Nat, k ≤ n ∧ i = .int .i64 k ∧ (∀ j, j < k → L j = L' j ∧ H j = H' j) ∧ Below w.heap.size w wr) (fun i _ => n - (intOf i).toNat)
    case atStart => exact ⟨0, Nat.zero_le _, rfl, fun j hj => absurd hj (Nat.not_lt_zero _), Below.refl _ _⟩
    case round =>
      obtain ⟨k, hk, rfl, hall, hB⟩ := hrel
      have Hall : Hid (∀ j, j < k → L j = L' j ∧ H j = H' j) := hall
      clear hall
      by_cases hlt : k < n
      · obtain rfl := hga (by omega)
        obtain rfl := hga' (by omega)
        have hltz : (k : Int) < (n : Int) := by omega
        obtain ⟨c1, c2⟩ := (hc.below hB) k hlt
        obtain ⟨c3, c4⟩ := (hc'.below hB) k hlt
        go_wp2_with fail
        go_region_with (go_at_call 69; refine (eqSpan_any _ _ _ _ _).mono ?_; rintro e w1 ⟨rfl, hb1⟩)
        all_goals go_wp2
        all_goals first
          | (go_roundw; case rel => exact ⟨k + 1, by omega, by go_num, eq_step Hall.out (by assumption), hB.drew.trans (hb1.mono hB.size)⟩
             case measure => simp [intOf]; omega)
          | (go_ret; exact ⟨ret_bool (eqB_at' hlt (by assumption)).symm, hB.drew.trans (hb1.mono hB.size)⟩)
      · go_wp2
        go_ret
        obtain rfl : k = n := by omega
        exact ⟨ret_bool (eqB_all Hall.out).symm, hB⟩
  · have hnn : ((n : Int) != (m : Int)) = true := by simp; omega
    go_enter Tryd.func52, Tryd.ntmps52
    go_wp2
    go_ret
    exact ⟨ret_bool (eqB_len hnm).symm, Below.refl _ _⟩
end Go.Proofs.YtolddecfibdblaaDoor

