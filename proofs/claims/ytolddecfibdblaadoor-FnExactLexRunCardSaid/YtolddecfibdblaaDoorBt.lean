/- Sets of bytes as four words of 64 bits: plain numbers, no Go. -/
import Derived.Test.YtolddecfibdblaaDoorTe
import Derived.Test.YtolddecfibdblaaDoorRows
import Derived.WalkKit
namespace Go.Proofs.YtolddecfibdblaaDoor
open Go.RowKit
set_option linter.unusedVariables false
set_option linter.unusedSimpArgs false

/-- x is in one of the spans -/
def hasB (n : Nat) (L H : Nat → Int) (x : Int) : Bool := (List.range n).any fun i => decide (L i ≤ x ∧ x ≤ H i)

theorem hasB_iff {n : Nat} {L H : Nat → Int} {x : Int} : hasB n L H x = true ↔ ∃ i, i < n ∧ L i ≤ x ∧ x ≤ H i := by
  simp only [hasB, List.any_eq_true, List.mem_range, decide_eq_true_eq]
theorem hasB_true {n k : Nat} {L H : Nat → Int} {x : Int} (hk : k < n) (h : L k ≤ x ∧ x ≤ H k) : hasB n L H x = true := hasB_iff.2 ⟨k, hk, h⟩
theorem hasB_false {n : Nat} {L H : Nat → Int} {x : Int} (h : ∀ i, i < n → ¬ (L i ≤ x ∧ x ≤ H i)) : hasB n L H x = false := by
  rw [← Bool.not_eq_true]
  intro e
  obtain ⟨i, hi, hh⟩ := hasB_iff.1 e
  exact h i hi hh
theorem has_step {k : Nat} {L H : Nat → Int} {x : Int} (hall : ∀ i, i < k → ¬ (L i ≤ x ∧ x ≤ H i)) (h : ¬ (L k ≤ x ∧ x ≤ H k)) : ∀ i, i < k + 1 → ¬ (L i ≤ x ∧ x ≤ H i) := by
  intro j hj
  by_cases e : j = k
  · subst e; exact h
  · exact hall j (by omega)

set_option maxHeartbeats 400000 in
theorem specSetHas_any (a : Option Addr) (b off cap n : Nat) (L H : Nat → Int) (x : Int) (w : World) (hga : 0 < n → a = some ⟨b, off, none⟩) (hc : Sp w b off n L H) (hn : n ≤ 4194304) :
    Calls Tryd.prog 60 #[.slice a n cap, .int .i64 x] w fun e w' => e = .returned (.bool (hasB n L H x)) ∧ w' = w := by
  go_enter Tryd.func60, Tryd.ntmps60
  go_wp2
  go_loop [5] (fun i => ∃ (k : Nat), k ≤ n ∧ i = .int .i64 k ∧ Hid (∀ i, i < k → ¬ (L i ≤ x ∧ x ≤ H i))) (fun i => n - (intOf i).toNat)
  case atStart => exact ⟨0, Nat.zero_le _, rfl, fun j hj => absurd hj (Nat.not_lt_zero _)⟩
  case round =>
    obtain ⟨k, hk, rfl, Hall⟩ := hrel
    by_cases hlt : k < n
    · obtain rfl := hga (by omega)
      have hltz : (k : Int) < (n : Int) := by omega
      obtain ⟨c1, c2⟩ := hc k hlt
      by_cases t1 : L k ≤ x
      · by_cases t2 : x ≤ H k
        · go_wp2
          go_ret
          exact ⟨ret_bool (hasB_true hlt ⟨t1, t2⟩).symm, rfl⟩
        · have t2' : decide (x ≤ H k) = false := by simpa using t2
          go_wp2
          go_round
          case rel => exact ⟨k + 1, by omega, by go_num, has_step Hall.out (by omega)⟩
          case measure => simp [intOf]; omega
      · have t1' : decide (L k ≤ x) = false := by simpa using t1
        go_wp2
        go_round
        case rel => exact ⟨k + 1, by omega, by go_num, has_step Hall.out (by omega)⟩
        case measure => simp [intOf]; omega
    · go_wp2
      go_ret
      obtain rfl : k = n := by omega
      exact ⟨ret_bool (hasB_false Hall.out).symm, rfl⟩

/-- the number whose bits below n are B -/
def wd (B : Nat → Bool) : Nat → Nat
  | 0 => 0
  | n + 1 => wd B n ||| (if B n then 2 ^ n else 0)

end Go.Proofs.YtolddecfibdblaaDoor
namespace Go.Proofs.YtolddecfibdblaaDoor

/-- the number whose bits below n are B -/
def wdb (B : Nat → Bool) : Nat → Nat
  | 0 => 0
  | n + 1 => wdb B n ||| (if B n then 2 ^ n else 0)

theorem wdb_testBit (B : Nat → Bool) (n j : Nat) : (wdb B n).testBit j = (decide (j < n) && B j) := by
  induction n with
  | zero => simp [wdb]
  | succ n ih =>
    rw [wdb, Nat.testBit_or, ih]
    by_cases hB : B n = true
    · rw [if_pos hB, Nat.testBit_two_pow]
      by_cases e : n = j
      · subst e; simp [hB]
      · have : decide (j < n + 1) = decide (j < n) := by simp; omega
        simp [e, this]
    · rw [if_neg hB]
      by_cases e : n = j
      · subst e; simp at hB; simp [hB]
      · have : decide (j < n + 1) = decide (j < n) := by simp; omega
        simp [this]

theorem wdb_lt (B : Nat → Bool) (n : Nat) : wdb B n < 2 ^ n := by
  induction n with
  | zero => simp [wdb]
  | succ n ih =>
    rw [wdb]
    refine Nat.or_lt_two_pow (by rw [Nat.pow_succ]; omega) ?_
    split
    · exact Nat.pow_lt_pow_right (by omega) (by omega)
    · exact Nat.two_pow_pos _

/-- word i of a set of bytes -/
def W (B : Nat → Bool) (i : Nat) : Nat := wdb (fun j => B (64 * i + j)) 64

theorem W_lt (B : Nat → Bool) (i : Nat) : W B i < 18446744073709551616 := wdb_lt _ 64
theorem W_testBit (B : Nat → Bool) (i j : Nat) : (W B i).testBit j = (decide (j < 64) && B (64 * i + j)) := wdb_testBit _ 64 j

theorem W_ext {x : Nat} {B : Nat → Bool} {i : Nat} (hx : x < 18446744073709551616) (h : ∀ j, j < 64 → x.testBit j = B (64 * i + j)) : x = W B i := by
  refine Nat.eq_of_testBit_eq (fun j => ?_)
  rw [W_testBit]
  by_cases hj : j < 64
  · simp [hj, h j hj]
  · have : x.testBit j = false := Nat.testBit_lt_two_pow (Nat.lt_of_lt_of_le hx (by
      have := Nat.pow_le_pow_right (n := 2) (by omega) (show 64 ≤ j by omega)
      simpa using this))
    simp [hj, this]

theorem W_congr {B B' : Nat → Bool} {i : Nat} (hi : i < 4) (h : ∀ x, x < 256 → B x = B' x) : W B i = W B' i :=
  W_ext (W_lt _ _) (fun j hj => by rw [W_testBit]; simp [hj]; exact h _ (by omega))

theorem W_none (i : Nat) : W (fun _ => false) i = 0 := (W_ext (by omega) (fun j _ => by simp)).symm

theorem W_or (A B : Nat → Bool) (i : Nat) : W A i ||| W B i = W (fun x => A x || B x) i :=
  W_ext (Nat.or_lt_two_pow (n := 64) (W_lt _ _) (W_lt _ _)) (fun j hj => by rw [Nat.testBit_or, W_testBit, W_testBit]; simp [hj])
theorem W_and (A B : Nat → Bool) (i : Nat) : W A i &&& W B i = W (fun x => A x && B x) i :=
  W_ext (Nat.and_lt_two_pow (n := 64) _ (W_lt _ _)) (fun j hj => by rw [Nat.testBit_and, W_testBit, W_testBit]; simp [hj])
theorem W_not (B : Nat → Bool) (i : Nat) : 18446744073709551615 ^^^ W B i = W (fun x => !B x) i :=
  W_ext (Nat.xor_lt_two_pow (n := 64) (by omega) (W_lt _ _)) (fun j hj => by
    rw [Nat.testBit_xor, W_testBit, show (18446744073709551615 : Nat) = 2 ^ 64 - 1 from by decide, Nat.testBit_two_pow_sub_one]; simp [hj])

theorem W_set (B : Nat → Bool) (b : Nat) : W B (b / 64) ||| 2 ^ (b % 64) = W (fun x => B x || x == b) (b / 64) :=
  W_ext (Nat.or_lt_two_pow (n := 64) (W_lt _ _) (Nat.pow_lt_pow_right (by omega) (by omega))) (fun j hj => by
    rw [Nat.testBit_or, W_testBit, Nat.testBit_two_pow]
    have : (64 * (b / 64) + j == b) = decide (b % 64 = j) := by
      rw [Bool.eq_iff_iff]; simp; omega
    simp [hj, this])
theorem W_set_other (B : Nat → Bool) (b i : Nat) (h : i ≠ b / 64) : W B i = W (fun x => B x || x == b) i :=
  W_ext (W_lt _ _) (fun j hj => by
    rw [W_testBit]
    have : (64 * i + j == b) = false := by simp; omega
    simp [hj, this])

end Go.Proofs.YtolddecfibdblaaDoor

