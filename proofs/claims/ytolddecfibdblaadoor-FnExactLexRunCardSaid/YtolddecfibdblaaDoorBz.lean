/- The least bit of a word, as TrailingZeros64 reckons it: plain numbers. -/
import Derived.Test.YtolddecfibdblaaDoorBw
import Derived.Test.YtolddecfibdblaaDoorBt
namespace Go.Proofs.YtolddecfibdblaaDoor
open Go.RowKit
set_option linter.unusedVariables false
set_option linter.unusedSimpArgs false

/-- how many of the first k are so -/
def cntb (B : Nat → Bool) : Nat → Nat
  | 0 => 0
  | k + 1 => cntb B k + (if B k then 1 else 0)

theorem cntb_le (B : Nat → Bool) (k : Nat) : cntb B k ≤ k := by
  induction k with
  | zero => exact Nat.le_refl _
  | succ k ih => rw [cntb]; split <;> omega

set_option maxRecDepth 100000 in
set_option maxHeartbeats 1000000 in
theorem specSetSize_any (a : Option Addr) (b off cap n : Nat) (L H : Nat → Int) (w : World) (hga : 0 < n → a = some ⟨b, off, none⟩) (hc : Sp w b off n L H) (hn : n ≤ 4194304) (N : Nat) (HN : Hid (N = cntb (hs n L H) 256)) :
    Calls Tryd.prog 59 #[.slice a n cap] w fun e w' => e = .returned (.int .i64 N) ∧ w' = w := by
  go_enter Tryd.func59, Tryd.ntmps59
  go_wp2
  go_loop [3, 4] (fun t i => ∃ (k c : Nat), k ≤ 256 ∧ i = .int .i64 k ∧ t = .int .i64 c ∧ c ≤ k ∧ Hid (c = cntb (hs n L H) k)) (fun _ i => 256 - (intOf i).toNat)
  case atStart => exact ⟨0, 0, by omega, rfl, rfl, by omega, rfl⟩
  case round =>
    obtain ⟨k, c, hk, rfl, rfl, hck, HC⟩ := hrel
    by_cases hlt : k < 256
    · have hltz : (k : Int) < 256 := by omega
      have H1 := specSetHas_any a b off cap n L H k w hga hc hn
      by_cases hh : hasB n L H k = true
      · rw [hh] at H1
        have HS : Hid (cntb (hs n L H) (k + 1) = c + 1) := by rw [cntb, ← HC.out]; simp [hs, hh, Hid]
        have H1' : Hid (Calls Tryd.prog 60 #[.slice a n cap, .int .i64 k] w fun e w' => e = .returned (.bool true) ∧ w' = w) := H1
        clear H1 hh
        go_wp2_with fail
        refine H1'.out.mono ?_
        rintro e w1 ⟨rfl, hw1⟩
        subst w1
        go_wp2
        go_round
        case rel => exact ⟨k + 1, c + 1, by omega, by go_num, by go_num, by omega, HS.out.symm⟩
        case measure => simp [intOf]; omega
      · have hh' : hasB n L H k = false := Bool.eq_false_iff.2 hh
        rw [hh'] at H1
        have HS : Hid (cntb (hs n L H) (k + 1) = c) := by rw [cntb, ← HC.out]; simp [hs, hh', Hid]
        have H1' : Hid (Calls Tryd.prog 60 #[.slice a n cap, .int .i64 k] w fun e w' => e = .returned (.bool false) ∧ w' = w) := H1
        clear H1 hh hh'
        go_wp2_with fail
        refine H1'.out.mono ?_
        rintro e w1 ⟨rfl, hw1⟩
        subst w1
        go_wp2
        go_round
        case rel => exact ⟨k + 1, c, by omega, by go_num, rfl, by omega, HS.out.symm⟩
        case measure => simp [intOf]; omega
    · go_wp2
      go_ret
      have e : k = 256 := by omega
      exact ⟨ret_int (by rw [HN.out, HC.out, e]), rfl⟩

end Go.Proofs.YtolddecfibdblaaDoor
namespace Go.Proofs.YtolddecfibdblaaDoor

theorem and_split (t a b A B : Nat) (ha : a < 2 ^ t) (hb : b < 2 ^ t) : (a + 2 ^ t * A) &&& (b + 2 ^ t * B) = (a &&& b) + 2 ^ t * (A &&& B) := by
  refine Nat.eq_of_testBit_eq (fun j => ?_)
  have hab : a &&& b < 2 ^ t := Nat.and_lt_two_pow _ hb
  rw [Nat.testBit_and, Nat.add_comm a, Nat.add_comm b, Nat.add_comm (a &&& b), Nat.testBit_two_pow_mul_add _ ha, Nat.testBit_two_pow_mul_add _ hb, Nat.testBit_two_pow_mul_add _ hab]
  by_cases h : j < t
  · simp [h, Nat.testBit_and]
  · simp [h, Nat.testBit_and]

theorem and_comp (k m : Nat) (h : m < 2 ^ k) : m &&& (2 ^ k - (m + 1)) = 0 := by
  refine Nat.eq_of_testBit_eq (fun j => ?_)
  rw [Nat.testBit_and, Nat.testBit_two_pow_sub_succ h]
  cases m.testBit j <;> simp

theorem and_odd (m n : Nat) : (1 + 2 * m) &&& (1 + 2 * n) = 1 + 2 * (m &&& n) := by
  have := and_split 1 1 1 m n (by decide) (by decide)
  simpa using this

/-- the least bit of a number that is not 0 -/
theorem least_bit (x : Nat) (h0 : x ≠ 0) (hx : x < 2 ^ 64) : ∃ t, t < 64 ∧ x.testBit t = true ∧ (∀ j, j < t → x.testBit j = false) ∧ x &&& (2 ^ 64 - x) = 2 ^ t := by
  have key : ∀ n, ∀ y, y ≠ 0 → y < 2 ^ n → ∃ t m, t < n ∧ y = 2 ^ t * (1 + 2 * m) := by
    intro n
    induction n with
    | zero => intro y h1 h2; simp at h2; omega
    | succ n ih =>
      intro y h1 h2
      by_cases e : y % 2 = 1
      · exact ⟨0, y / 2, by omega, by simp; omega⟩
      · obtain ⟨t, m, ht, hy⟩ := ih (y / 2) (by omega) (by rw [Nat.pow_succ] at h2; omega)
        refine ⟨t + 1, m, by omega, ?_⟩
        rw [Nat.pow_succ, Nat.mul_comm (2 ^ t) 2, Nat.mul_assoc, ← hy]
        omega
  obtain ⟨t, m, ht, hxm⟩ := key 64 x h0 hx
  have hbit : ∀ j, x.testBit j = (decide (t ≤ j) && (1 + 2 * m).testBit (j - t)) := fun j => by
    rw [hxm, Nat.testBit_two_pow_mul]
  refine ⟨t, ht, ?_, ?_, ?_⟩
  · rw [hbit]; simp [Nat.testBit_zero]
  · intro j hj
    rw [hbit]
    have : decide (t ≤ j) = false := by simp; omega
    simp [this]
  · have hk : ∃ k, 63 - t = k := ⟨_, rfl⟩
    obtain ⟨k, hk⟩ := hk
    have e64 : 2 ^ 64 = 2 ^ t * (2 * 2 ^ k) := by
      rw [Nat.mul_left_comm, ← Nat.pow_add, show t + k = 63 by omega]
    have hm : m < 2 ^ k := by
      have h1 : 2 ^ t * (1 + 2 * m) < 2 ^ t * (2 * 2 ^ k) := by rw [← e64, ← hxm]; exact hx
      have h2 := Nat.lt_of_mul_lt_mul_left h1
      omega
    have e : 2 ^ 64 - x = 2 ^ t * (1 + 2 * (2 ^ k - (m + 1))) := by
      rw [e64, hxm, ← Nat.mul_sub]
      congr 1
      omega
    have s := and_split t 0 0 (1 + 2 * m) (1 + 2 * (2 ^ k - (m + 1))) (Nat.two_pow_pos _) (Nat.two_pow_pos _)
    rw [Nat.zero_add, Nat.zero_add, ← hxm, ← e] at s
    rw [s, and_odd, and_comp k m hm]
    simp

/-- the table -/
def dB : List Nat := [0, 1, 56, 2, 57, 49, 28, 3, 61, 58, 42, 50, 38, 29, 17, 4, 62, 47, 59, 36, 45, 43, 51, 22, 53, 39, 33, 30, 24, 18, 12, 5, 63, 55, 48, 27, 60, 41, 37, 16, 46, 35, 44, 21, 52, 32, 23, 11, 54, 26, 40, 15, 34, 20, 31, 10, 25, 14, 19, 9, 13, 8, 7, 6]
theorem dB_at : ∀ t, t < 64 → dB.getD (2 ^ t * 285870213051353865 % 18446744073709551616 / 288230376151711744) 0 = t := by decide
theorem dB_ix : ∀ t, t < 64 → 2 ^ t * 285870213051353865 % 18446744073709551616 / 288230376151711744 < 64 := by decide

/-- r is the first byte of B, or -1 -/
def FirstB (B : Nat → Bool) (r : Int) : Prop := (r = -1 ∧ ∀ x, x < 256 → B x = false) ∨ ∃ x : Nat, x < 256 ∧ r = (x : Int) ∧ B x = true ∧ ∀ y, y < x → B y = false
theorem FirstB.unique {B : Nat → Bool} {r r' : Int} (h : FirstB B r) (h' : FirstB B r') : r = r' := by
  rcases h with ⟨rfl, h⟩ | ⟨x, hx, rfl, h1, h2⟩
  · rcases h' with ⟨rfl, _⟩ | ⟨x', hx', rfl, h1', _⟩
    · rfl
    · rw [h x' hx'] at h1'; cases h1'
  · rcases h' with ⟨rfl, h'⟩ | ⟨x', hx', rfl, h1', h2'⟩
    · rw [h' x hx] at h1; cases h1
    · by_cases e : x < x'
      · rw [h2' x e] at h1; cases h1
      · by_cases e' : x' < x
        · rw [h2 x' e'] at h1'; cases h1'
        · have : x = x' := by omega
          rw [this]
end Go.Proofs.YtolddecfibdblaaDoor

