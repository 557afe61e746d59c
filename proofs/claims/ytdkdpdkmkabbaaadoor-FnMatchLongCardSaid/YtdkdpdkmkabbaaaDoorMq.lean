/- the last place of a set of places: plain numbers, and the walks of Len16 and last -/
import Derived.Test.YtdkdpdkmkabbaaaDoorMb
import Derived.Lib.BitFns
namespace Go.Proofs.YtdkdpdkmkabbaaaDoor
open Go.RowKit
set_option linter.unusedVariables false
set_option linter.unusedSimpArgs false

/-- the greatest number below n that B has, or -1 -/
def topI (B : Nat → Bool) : Nat → Int
  | 0 => -1
  | n + 1 => if B n then (n : Int) else topI B n
theorem topI_lo (B : Nat → Bool) (n : Nat) : -1 ≤ topI B n ∧ topI B n < n := by
  induction n with
  | zero => simp [topI]
  | succ n ih => rw [topI]; split <;> omega
theorem topI_yes {B : Nat → Bool} {n : Nat} (h : B n = true) : topI B (n + 1) = n := by rw [topI, if_pos h]
theorem topI_no {B : Nat → Bool} {n : Nat} (h : B n = false) : topI B (n + 1) = topI B n := by rw [topI, if_neg (by simp [h])]
theorem topI_congr {A B : Nat → Bool} {n : Nat} (h : ∀ j, j < n → A j = B j) : topI A n = topI B n := by
  induction n with
  | zero => rfl
  | succ n ih => rw [topI, topI, h n (by omega), ih (fun j hj => h j (by omega))]
theorem topI_more {B : Nat → Bool} {n m : Nat} (hnm : n ≤ m) (h : ∀ j, n ≤ j → B j = false) : topI B m = topI B n := by
  induction m with
  | zero => rw [show n = 0 by omega]
  | succ m ih =>
    by_cases e : n = m + 1
    · rw [e]
    · rw [topI_no (h m (by omega)), ih (by omega)]

theorem bitLen_wd (B : Nat → Bool) (n : Nat) (hn : n ≤ 16) : (Lib.bitLen (wd B n) : Int) = topI B n + 1 := by
  induction n with
  | zero => rfl
  | succ n ih =>
    have h1 := wd_lt B n
    have h2 := wd_lt B (n + 1)
    have h3 : 2 ^ (n + 1) ≤ 2 ^ 64 := Nat.pow_le_pow_right (by omega) (by omega)
    cases hB : B n with
    | false =>
      rw [topI_no hB, wd, hB, if_neg (by simp), Nat.or_zero]
      exact ih (by omega)
    | true =>
      rw [topI_yes hB]
      have h4 : 2 ^ n ≤ wd B (n + 1) := by
        rw [wd, hB, if_pos rfl]
        exact Nat.right_le_or
      have h5 : wd B (n + 1) / 2 ^ n = 1 := by
        rw [Nat.pow_succ] at h2
        refine Nat.le_antisymm ?_ ?_
        · exact Nat.le_of_lt_succ ((Nat.div_lt_iff_lt_mul (Nat.two_pow_pos n)).2 (by omega))
        · exact (Nat.le_div_iff_mul_le (Nat.two_pow_pos n)).2 (by omega)
      rw [Lib.bitLen_shift n _ h4 (by omega), h5, show Lib.bitLen 1 = 1 from by decide]
      omega
theorem bitLen_pw (B : Nat → Bool) : (Lib.bitLen (pw B) : Int) = topI B 13 + 1 := bitLen_wd B 13 (by omega)

set_option maxHeartbeats 4000000 in
set_option maxRecDepth 100000 in
theorem len16_any (x : Int) (w : World) (h0 : 0 ≤ x) (h1 : x ≤ 65535) :
    Calls Tryd.prog 36 #[.int .u16 x] w fun e w' => e = .returned (.int .i64 (Lib.bitLen x.toNat)) ∧ w' = w := by
  by_cases hx : x < 256
  · have h2 : x ≤ 255 := by omega
    have l := Lib.bitLen_le8' x h0 h2
    have e := Lib.len8_of x h0 h2
    go_enter Tryd.func36, Tryd.ntmps36
    go_wp2
    all_goals (go_ret; refine ⟨congrArg Ending.returned (congrArg (Value.int IntKind.i64) ?_), rfl⟩)
    all_goals omega
  · have h2 : x / 256 ≤ 255 := by omega
    have h3 : 0 ≤ x / 256 := by omega
    have l := Lib.bitLen_le8' (x / 256) h3 h2
    have e := Lib.len8_of (x / 256) h3 h2
    have s := Lib.bitLen_shift8 x.toNat (by omega) (by omega)
    rw [show (x / 256).toNat = x.toNat / 256 by omega] at l e
    have hx' : 256 ≤ x := by omega
    go_enter Tryd.func36, Tryd.ntmps36
    go_wp2
    all_goals (go_ret; refine ⟨congrArg Ending.returned (congrArg (Value.int IntKind.i64) ?_), rfl⟩)
    all_goals omega

set_option maxHeartbeats 400000 in
theorem last_any (B : Nat → Bool) (w : World) : Calls Tryd.prog 19 #[.int .u16 (pw B)] w fun e w' => e = .returned (.int .i64 (topI B 13)) ∧ w' = w := by
  have h := pw_lt B
  have l := topI_lo B 13
  have H39 : Hid (Calls Tryd.prog 36 #[.int .u16 (pw B)] w fun e w' => e = .returned (.int .i64 (topI B 13 + 1)) ∧ w' = w) := by
    have h := len16_any (pw B) w (by omega) (by omega)
    rw [show ((pw B : Int)).toNat = pw B from rfl, bitLen_pw] at h
    exact h
  clear h
  go_enter Tryd.func19, Tryd.ntmps19
  go_wp2_with fail
  refine H39.out.mono ?_
  rintro e w1 ⟨rfl, rfl⟩
  go_wp2
  go_ret
  exact ⟨congrArg Ending.returned (congrArg (Value.int IntKind.i64) (by omega)), rfl⟩
end Go.Proofs.YtdkdpdkmkabbaaaDoor

