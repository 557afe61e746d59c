/- how many bytes a set has; the walk of spec SetSize -/
import Derived.Test.YtolddecfibdblaaDoorBw
namespace Go.Proofs.YtolddecfibdblaaDoor
open Go.RowKit
set_option linter.unusedVariables false
set_option linter.unusedSimpArgs false

/-- how many of the first k are so -/
def cntb (B : Nat → Bool) : Nat → Nat
  | 0 => 0
  | k + 1 => cntb B k + (if B k then 1 else 0)

theorem cntb_le (B : Nat → Bool) (k : Nat) : cntb B k ≤ k := by
  induction k with
  | zero => exact Nat.le_refl _
  | succ k ih => rw [cntb]; split <;> omega

set_option maxRecDepth 100000 in
set_option maxHeartbeats 1000000 in
theorem specSetSize_any (a : Option Addr) (b off cap n : Nat) (L H : Nat → Int) (w : World) (hga : 0 < n → a = some ⟨b, off, none⟩) (hc : Sp w b off n L H) (hn : n ≤ 4194304) (N : Nat) (HN : Hid (N = cntb (hs n L H) 256)) :
    Calls Tryd.prog 59 #[.slice a n cap] w fun e w' => e = .returned (.int .i64 N) ∧ w' = w := by
  go_enter Tryd.func59, Tryd.ntmps59
  go_wp2
  go_loop [3, 4] (fun t i => ∃ (k c : Nat), k ≤ 256 ∧ i = .int .i64 k ∧ t = .int .i64 c ∧ c ≤ k ∧ Hid (c = cntb (hs n L H) k)) (fun _ i => 256 - (intOf i).toNat)
  case atStart => exact ⟨0, 0, by omega, rfl, rfl, by omega, rfl⟩
  case round =>
    obtain ⟨k, c, hk, rfl, rfl, hck, HC⟩ := hrel
    by_cases hlt : k < 256
    · have hltz : (k : Int) < 256 := by omega
      have H1 := specSetHas_any a b off cap n L H k w hga hc hn
      by_cases hh : hasB n L H k = true
      · rw [hh] at H1
        have HS : Hid (cntb (hs n L H) (k + 1) = c + 1) := by rw [cntb, ← HC.out]; simp [hs, hh, Hid]
        have H1' : Hid (Calls Tryd.prog 60 #[.slice a n cap, .int .i64 k] w fun e w' => e = .returned (.bool true) ∧ w' = w) := H1
        clear H1 hh
        go_wp2_with fail
        refine H1'.out.mono ?_
        rintro e w1 ⟨rfl, hw1⟩
        subst w1
        go_wp2
        go_round
        case rel => exact ⟨k + 1, c + 1, by omega, by go_num, by go_num, by omega, HS.out.symm⟩
        case measure => simp [intOf]; omega
      · have hh' : hasB n L H k = false := Bool.eq_false_iff.2 hh
        rw [hh'] at H1
        have HS : Hid (cntb (hs n L H) (k + 1) = c) := by rw [cntb, ← HC.out]; simp [hs, hh', Hid]
        have H1' : Hid (Calls Tryd.prog 60 #[.slice a n cap, .int .i64 k] w fun e w' => e = .returned (.bool false) ∧ w' = w) := H1
        clear H1 hh hh'
        go_wp2_with fail
        refine H1'.out.mono ?_
        rintro e w1 ⟨rfl, hw1⟩
        subst w1
        go_wp2
        go_round
        case rel => exact ⟨k + 1, c, by omega, by go_num, rfl, by omega, HS.out.symm⟩
        case measure => simp [intOf]; omega
    · go_wp2
      go_ret
      have e : k = 256 := by omega
      exact ⟨ret_int (by rw [HN.out, HC.out, e]), rfl⟩

end Go.Proofs.YtolddecfibdblaaDoor

