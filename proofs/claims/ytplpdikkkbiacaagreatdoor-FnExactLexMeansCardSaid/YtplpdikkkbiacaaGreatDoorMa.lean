/- Sets of places as numbers, and the walks of the small functions: SetHas, MatchWord, onePlace, has, last. -/
import Derived.Test.YtplpdikkkbiacaaGreatDoorTg
namespace Go.Proofs.YtplpdikkkbiacaaGreatDoor
open Go.RowKit
set_option linter.unusedVariables false
set_option linter.unusedSimpArgs false

/-- x is in one of the spans -/
def hasB (n : Nat) (L H : Nat → Int) (x : Int) : Bool := (List.range n).any fun i => decide (L i ≤ x ∧ x ≤ H i)

theorem hasB_iff {n : Nat} {L H : Nat → Int} {x : Int} : hasB n L H x = true ↔ ∃ i, i < n ∧ L i ≤ x ∧ x ≤ H i := by
  simp only [hasB, List.any_eq_true, List.mem_range, decide_eq_true_eq]
theorem hasB_true {n k : Nat} {L H : Nat → Int} {x : Int} (hk : k < n) (h : L k ≤ x ∧ x ≤ H k) : hasB n L H x = true := hasB_iff.2 ⟨k, hk, h⟩
theorem hasB_false {n : Nat} {L H : Nat → Int} {x : Int} (h : ∀ i, i < n → ¬ (L i ≤ x ∧ x ≤ H i)) : hasB n L H x = false := by
  rw [← Bool.not_eq_true]
  intro e
  obtain ⟨i, hi, hh⟩ := hasB_iff.1 e
  exact h i hi hh
theorem has_step {k : Nat} {L H : Nat → Int} {x : Int} (hall : ∀ i, i < k → ¬ (L i ≤ x ∧ x ≤ H i)) (h : ¬ (L k ≤ x ∧ x ≤ H k)) : ∀ i, i < k + 1 → ¬ (L i ≤ x ∧ x ≤ H i) := by
  intro j hj
  by_cases e : j = k
  · subst e; exact h
  · exact hall j (by omega)

set_option maxHeartbeats 400000 in
theorem specSetHas_any (a : Option Addr) (b off cap n : Nat) (L H : Nat → Int) (x : Int) (w : World) (hga : 0 < n → a = some ⟨b, off, none⟩) (hc : Sp w b off n L H) (hn : n ≤ 4194304) :
    Calls Tryz.prog 56 #[.slice a n cap, .int .i64 x] w fun e w' => e = .returned (.bool (hasB n L H x)) ∧ w' = w := by
  go_enter Tryz.func56, Tryz.ntmps56
  go_wp2
  go_loop [5] (fun i => ∃ (k : Nat), k ≤ n ∧ i = .int .i64 k ∧ Hid (∀ i, i < k → ¬ (L i ≤ x ∧ x ≤ H i))) (fun i => n - (intOf i).toNat)
  case atStart => exact ⟨0, Nat.zero_le _, rfl, fun j hj => absurd hj (Nat.not_lt_zero _)⟩
  case round =>
    obtain ⟨k, hk, rfl, Hall⟩ := hrel
    by_cases hlt : k < n
    · obtain rfl := hga (by omega)
      have hltz : (k : Int) < (n : Int) := by omega
      obtain ⟨c1, c2⟩ := hc k hlt
      by_cases t1 : L k ≤ x
      · by_cases t2 : x ≤ H k
        · go_wp2
          go_ret
          exact ⟨ret_bool (hasB_true hlt ⟨t1, t2⟩).symm, rfl⟩
        · have t2' : decide (x ≤ H k) = false := by simpa using t2
          go_wp2
          go_round
          case rel => exact ⟨k + 1, by omega, by go_num, has_step Hall.out (by omega)⟩
          case measure => simp [intOf]; omega
      · have t1' : decide (L k ≤ x) = false := by simpa using t1
        go_wp2
        go_round
        case rel => exact ⟨k + 1, by omega, by go_num, has_step Hall.out (by omega)⟩
        case measure => simp [intOf]; omega
    · go_wp2
      go_ret
      obtain rfl : k = n := by omega
      exact ⟨ret_bool (hasB_false Hall.out).symm, rfl⟩

set_option maxHeartbeats 400000 in
theorem implSetHas_any (a : Option Addr) (b off cap n : Nat) (L H : Nat → Int) (x : Int) (w : World) (hga : 0 < n → a = some ⟨b, off, none⟩) (hc : Sp w b off n L H) (hn : n ≤ 4194304) :
    Calls Tryz.prog 95 #[.slice a n cap, .int .i64 x] w fun e w' => e = .returned (.bool (hasB n L H x)) ∧ Below w.heap.size w w' := by
  go_enter Tryz.func95, Tryz.ntmps95
  go_wp2
  go_loopw [9] (fun i wr => ∃ (k : Nat), k ≤ n ∧ i = .int .i64 k ∧ Hid (∀ i, i < k → ¬ (L i ≤ x ∧ x ≤ H i)) ∧ Below w.heap.size w wr) (fun i _ => n - (intOf i).toNat)
  case atStart => exact ⟨0, Nat.zero_le _, rfl, fun j hj => absurd hj (Nat.not_lt_zero _), Below.refl _ _⟩
  case round =>
    obtain ⟨k, hk, rfl, Hall, hB⟩ := hrel
    by_cases hlt : k < n
    · obtain rfl := hga (by omega)
      have hltz : (k : Int) < (n : Int) := by omega
      obtain ⟨c1, c2⟩ := (hc.below hB) k hlt
      go_wp2
      all_goals first
        | (go_roundw; case rel => exact ⟨k + 1, by omega, by go_num, has_step Hall.out (by omega), hB.alloc hB.size _⟩
           case measure => simp [intOf]; omega)
        | (go_ret; exact ⟨ret_bool (hasB_true hlt ⟨by assumption, by assumption⟩).symm, hB.alloc hB.size _⟩)
    · go_wp2
      go_ret
      obtain rfl : k = n := by omega
      exact ⟨ret_bool (hasB_false Hall.out).symm, hB⟩

theorem specWord_any (s : ByteArray) (w : World) : Calls Tryz.prog 15 #[.string s] w fun e w' => e = .returned (.bool (decide ((s.size : Int) ≤ 12))) ∧ w' = w := by
  by_cases h : ((s.size : Int) ≤ 12)
  · have hd : decide ((s.size : Int) ≤ 12) = true := decide_eq_true h
    go_enter Tryz.func15, Tryz.ntmps15
    go_wp2
    go_ret
    exact ⟨by rw [hd]; rfl, rfl⟩
  · have hd : decide ((s.size : Int) ≤ 12) = false := decide_eq_false h
    go_enter Tryz.func15, Tryz.ntmps15
    go_wp2
    go_ret
    exact ⟨rfl, rfl⟩

theorem implWord_any (s : ByteArray) (w : World) : Calls Tryz.prog 19 #[.string s] w fun e w' => e = .returned (.bool (decide ((s.size : Int) ≤ 12))) ∧ w' = w := by
  by_cases h : ((s.size : Int) ≤ 12)
  · have hd : decide ((s.size : Int) ≤ 12) = true := decide_eq_true h
    go_enter Tryz.func19, Tryz.ntmps19
    go_wp2
    go_ret
    exact ⟨by rw [hd]; rfl, rfl⟩
  · have hd : decide ((s.size : Int) ≤ 12) = false := decide_eq_false h
    go_enter Tryz.func19, Tryz.ntmps19
    go_wp2
    go_ret
    exact ⟨rfl, rfl⟩

/-- the number whose bits below n are B -/
def wd (B : Nat → Bool) : Nat → Nat
  | 0 => 0
  | n + 1 => wd B n ||| (if B n then 2 ^ n else 0)

theorem wd_testBit (B : Nat → Bool) (n j : Nat) : (wd B n).testBit j = (decide (j < n) && B j) := by
  induction n with
  | zero => simp [wd]
  | succ n ih =>
    rw [wd, Nat.testBit_or, ih]
    by_cases hB : B n = true
    · rw [if_pos hB, Nat.testBit_two_pow]
      by_cases e : n = j
      · subst e; simp [hB]
      · have : decide (j < n + 1) = decide (j < n) := by simp; omega
        simp [e, this]
    · rw [if_neg hB]
      by_cases e : n = j
      · subst e; simp at hB; simp [hB]
      · have : decide (j < n + 1) = decide (j < n) := by simp; omega
        simp [this]

theorem wd_lt (B : Nat → Bool) (n : Nat) : wd B n < 2 ^ n := by
  induction n with
  | zero => simp [wd]
  | succ n ih =>
    rw [wd]
    refine Nat.or_lt_two_pow (by rw [Nat.pow_succ]; omega) ?_
    split
    · exact Nat.pow_lt_pow_right (by omega) (by omega)
    · exact Nat.two_pow_pos _

/-- a set of places, 0 to 12 -/
def pw (B : Nat → Bool) : Nat := wd B 13
theorem pw_lt (B : Nat → Bool) : pw B < 8192 := wd_lt B 13
theorem pw_bit (B : Nat → Bool) (j : Nat) : (pw B).testBit j = (decide (j < 13) && B j) := wd_testBit B 13 j
theorem pw_ext {x : Nat} {B : Nat → Bool} (hx : x < 8192) (h : ∀ j, j < 13 → x.testBit j = B j) : x = pw B := by
  refine Nat.eq_of_testBit_eq (fun j => ?_)
  rw [pw_bit]
  by_cases hj : j < 13
  · simp [hj, h j hj]
  · have : x.testBit j = false := Nat.testBit_lt_two_pow (Nat.lt_of_lt_of_le hx (by
      have := Nat.pow_le_pow_right (n := 2) (by omega) (show 13 ≤ j by omega)
      simpa using this))
    simp [hj, this]
theorem pw_congr {A B : Nat → Bool} (h : ∀ j, j < 13 → A j = B j) : pw A = pw B := pw_ext (pw_lt A) (fun j hj => by rw [pw_bit]; simp [hj, h j hj])
theorem pw_none : pw (fun _ => false) = 0 := (pw_ext (by omega) (fun j _ => by simp)).symm
theorem pw_or (A B : Nat → Bool) : pw A ||| pw B = pw (fun j => A j || B j) :=
  pw_ext (Nat.or_lt_two_pow (n := 13) (pw_lt _) (pw_lt _)) (fun j hj => by rw [Nat.testBit_or, pw_bit, pw_bit]; simp [hj])
theorem pw_and (A B : Nat → Bool) : pw A &&& pw B = pw (fun j => A j && B j) :=
  pw_ext (Nat.and_lt_two_pow (n := 13) _ (pw_lt _)) (fun j hj => by rw [Nat.testBit_and, pw_bit, pw_bit]; simp [hj])
theorem pw_one (p : Nat) (hp : p < 13) : 2 ^ p = pw (fun j => j == p) :=
  pw_ext (by have := Nat.pow_lt_pow_right (a := 2) (by omega) hp; omega) (fun j hj => by rw [Nat.testBit_two_pow]; by_cases e : p = j <;> simp [e]; omega)

theorem ofInt16 (a : Nat) (ha : a < 65536) : (BitVec.ofInt 16 (a : Int)).toNat = a := by
  rw [BitVec.ofInt_natCast, BitVec.toNat_ofNat]; exact Nat.mod_eq_of_lt (by omega)
theorem bits_or_u16_nat (a b : Nat) (ha : a < 65536) (hb : b < 65536) : bits .or .u16 (a : Int) (b : Int) = ((a ||| b : Nat) : Int) := by
  have hx : a ||| b < 2 ^ 16 := Nat.or_lt_two_pow (by omega) (by omega)
  show IntKind.u16.wrap ((BitVec.ofInt 16 (a : Int) ||| BitVec.ofInt 16 (b : Int)).toNat : Int) = _
  rw [BitVec.toNat_or, ofInt16 a ha, ofInt16 b hb, IntKind.wrap_u16]
  omega
theorem bits_and_u16_nat (a b : Nat) (ha : a < 65536) (hb : b < 65536) : bits .and .u16 (a : Int) (b : Int) = ((a &&& b : Nat) : Int) := by
  have hx : a &&& b < 2 ^ 16 := Nat.and_lt_two_pow (n := 16) _ (by omega)
  show IntKind.u16.wrap ((BitVec.ofInt 16 (a : Int) &&& BitVec.ofInt 16 (b : Int)).toNat : Int) = _
  rw [BitVec.toNat_and, ofInt16 a ha, ofInt16 b hb, IntKind.wrap_u16]
  omega
theorem u16_or (A B : Nat → Bool) : bits .or .u16 (pw A : Int) (pw B : Int) = (pw (fun j => A j || B j) : Int) := by
  rw [bits_or_u16_nat _ _ (by have := pw_lt A; omega) (by have := pw_lt B; omega), pw_or]
theorem u16_and (A B : Nat → Bool) : bits .and .u16 (pw A : Int) (pw B : Int) = (pw (fun j => A j && B j) : Int) := by
  rw [bits_and_u16_nat _ _ (by have := pw_lt A; omega) (by have := pw_lt B; omega), pw_and]
theorem u16_andNot (A B : Nat → Bool) : bits .andNot .u16 (pw A : Int) (pw B : Int) = (pw (fun j => A j && !B j) : Int) := by
  have ha := pw_lt A
  have hb := pw_lt B
  have hx : (BitVec.ofInt 16 (pw A : Int) &&& ~~~ BitVec.ofInt 16 (pw B : Int)).toNat = pw (fun j => A j && !B j) := by
    refine pw_ext ?_ (fun j hj => ?_)
    · rw [BitVec.toNat_and]
      exact Nat.lt_of_le_of_lt Nat.and_le_left (by rw [ofInt16 _ (by omega)]; exact ha)
    · rw [BitVec.toNat_and, Nat.testBit_and, BitVec.toNat_not, ofInt16 _ (by omega), ofInt16 _ (by omega), Nat.sub_sub, Nat.add_comm, Nat.testBit_two_pow_sub_succ (by omega), pw_bit, pw_bit]
      simp [hj, show j < 16 by omega]
  show IntKind.u16.wrap ((BitVec.ofInt 16 (pw A : Int) &&& ~~~ BitVec.ofInt 16 (pw B : Int)).toNat : Int) = _
  rw [hx, IntKind.wrap_u16]
  have := pw_lt (fun j => A j && !B j)
  omega
theorem wrap_one (p : Nat) (hp : p < 13) : IntKind.u16.wrap (2 ^ p) = (pw (fun j => j == p) : Int) := by
  have e : (2 : Int) ^ p = ((2 ^ p : Nat) : Int) := by simp
  rw [IntKind.wrap_u16, e, pw_one p hp]
  have := pw_lt (fun j => j == p)
  omega

set_option maxHeartbeats 400000 in
theorem onePlace_any (p : Nat) (hp : p < 13) (w : World) : Calls Tryz.prog 87 #[.int .i64 p] w fun e w' => e = .returned (.int .u16 (pw (fun j => j == p))) ∧ w' = w := by
  have hp0 : ¬ ((p : Int) < 0) := by omega
  go_enter Tryz.func87, Tryz.ntmps87
  go_wp2
  go_ret
  exact ⟨by rw [← wrap_one p hp]; rfl, rfl⟩

set_option maxHeartbeats 400000 in
theorem has_any (B : Nat → Bool) (p : Nat) (hp : p < 13) (w : World) : Calls Tryz.prog 96 #[.int .u16 (pw B), .int .i64 p] w fun e w' => e = .returned (.bool (B p)) ∧ w' = w := by
  have HE : Hid ((bits BinOp.and IntKind.u16 (pw B : Int) (pw (fun j => j == p) : Int) != 0) = B p) := by
    rw [Hid, u16_and]
    cases hb : B p
    · have : pw (fun j => B j && j == p) = 0 := by
        rw [← pw_none]
        refine pw_congr (fun j hj => ?_)
        by_cases e : j = p
        · subst e; simp [hb]
        · simp [e]
      rw [this]; rfl
    · have h1 := pw_bit (fun j => B j && j == p) p
      simp [hb, hp] at h1
      have : pw (fun j => B j && j == p) ≠ 0 := fun e => by rw [e] at h1; simp at h1
      simp; omega
  go_enter Tryz.func96, Tryz.ntmps96
  go_wp2_with fail
  refine (onePlace_any p hp _).mono ?_
  rintro e w1 ⟨rfl, rfl⟩
  go_wp2
  go_ret
  exact ⟨ret_bool HE.out, rfl⟩

end Go.Proofs.YtplpdikkkbiacaaGreatDoor

