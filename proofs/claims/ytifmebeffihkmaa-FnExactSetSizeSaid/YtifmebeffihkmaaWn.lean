/- the walk of OnesCount64 -/
import Derived.Test.YtifmebeffihkmaaWg
import Derived.Test.YtifmebeffihkmaaPop
namespace Go.Proofs.Ytifmebeffihkmaa
open Go.RowKit

theorem nib_lt (f : Nat → Nat) (hf : ∀ h, h < 16 → f h < 16) (k x : Nat) : nib f k x < 16 ^ k := by
  induction k generalizing x with
  | zero => simp [nib]
  | succ k ih =>
    have h1 := ih (x / 16)
    have h2 := hf (x % 16) (by omega)
    rw [nib, Nat.pow_succ]
    omega

theorem pop4_lt (h : Nat) (_ : h < 16) : pop4 h < 16 := by have := pop4_le h; omega

/-- the counts of the eight bytes of a word -/
theorem ones_sum (x : Nat) : ∃ c0 c1 c2 c3 c4 c5 c6 c7 X1 X2 X3 X4 X5 X6 : Nat, c0 ≤ 8 ∧ c1 ≤ 8 ∧ c2 ≤ 8 ∧ c3 ≤ 8 ∧ c4 ≤ 8 ∧ c5 ≤ 8 ∧ c6 ≤ 8 ∧ c7 ≤ 8 ∧
    X6 = c6 + 256 * c7 ∧ X5 = c5 + 256 * X6 ∧ X4 = c4 + 256 * X5 ∧ X3 = c3 + 256 * X4 ∧ X2 = c2 + 256 * X3 ∧ X1 = c1 + 256 * X2 ∧ byt 8 x = c0 + 256 * X1 ∧ cnt x.testBit 64 = c0 + c1 + c2 + c3 + c4 + c5 + c6 + c7 := by
  have hb : ∀ y, pop4 (y % 16) + pop4 (y / 16 % 16) ≤ 8 := fun y => by have h1 := pop4_le (y % 16); have h2 := pop4_le (y / 16 % 16); omega
  refine ⟨_, _, _, _, _, _, _, _, byt 7 (x / 256), byt 6 (x / 256 / 256), byt 5 (x / 256 / 256 / 256), byt 4 (x / 256 / 256 / 256 / 256), byt 3 (x / 256 / 256 / 256 / 256 / 256), byt 2 (x / 256 / 256 / 256 / 256 / 256 / 256), hb x, hb (x / 256), hb (x / 256 / 256), hb (x / 256 / 256 / 256), hb (x / 256 / 256 / 256 / 256), hb (x / 256 / 256 / 256 / 256 / 256), hb (x / 256 / 256 / 256 / 256 / 256 / 256), hb (x / 256 / 256 / 256 / 256 / 256 / 256 / 256), ?_, rfl, rfl, rfl, rfl, rfl, rfl, ?_⟩
  · show byt 2 _ = _
    rw [byt, byt, byt]; omega
  · rw [show (64 : Nat) = 8 * (7 + 1) from rfl, cnt_byt, show 8 * 7 = 8 * (6 + 1) from rfl, cnt_byt, show 8 * 6 = 8 * (5 + 1) from rfl, cnt_byt, show 8 * 5 = 8 * (4 + 1) from rfl, cnt_byt, show 8 * 4 = 8 * (3 + 1) from rfl, cnt_byt,
      show 8 * 3 = 8 * (2 + 1) from rfl, cnt_byt, show 8 * 2 = 8 * (1 + 1) from rfl, cnt_byt, show 8 * 1 = 8 * (0 + 1) from rfl, cnt_byt]
    simp only [cnt]
    omega

theorem nib_le (k x : Nat) : nib pop4 k x ≤ 4 * rep 1 k := by
  induction k generalizing x with
  | zero => simp [nib, rep]
  | succ k ih =>
    have h1 := ih (x / 16)
    have h2 := pop4_le (x % 16)
    rw [nib, rep]
    omega

theorem wrap_nat (a : Nat) (h : a < 18446744073709551616) : IntKind.u64.wrap (a : Int) = (a : Int) := by rw [IntKind.wrap_u64]; omega

theorem and_nat (a m : Nat) (ha : a < 18446744073709551616) (hm : m < 18446744073709551616) (A M : Int) (eA : A = (a : Int)) (eM : M = (m : Int)) : bits BinOp.and IntKind.u64 A M = ((a &&& m : Nat) : Int) := by
  rw [eA, eM]; exact u64_and_nat a m ha hm

/-- the six steps, as the program reckons them -/
theorem ones_steps (x : Nat) (hx : x < 18446744073709551616) : ∃ a1 a2 a3 a4 a5 a6 : Nat,
    IntKind.u64.wrap (bits BinOp.and IntKind.u64 ((x : Int) / 2) 6148914691236517205 + bits BinOp.and IntKind.u64 (x : Int) 6148914691236517205) = (a1 : Int) ∧
    IntKind.u64.wrap (bits BinOp.and IntKind.u64 ((a1 : Int) / 4) 3689348814741910323 + bits BinOp.and IntKind.u64 (a1 : Int) 3689348814741910323) = (a2 : Int) ∧
    bits BinOp.and IntKind.u64 (IntKind.u64.wrap ((a2 : Int) / 16 + (a2 : Int))) 1085102592571150095 = (a3 : Int) ∧
    IntKind.u64.wrap ((a3 : Int) + (a3 : Int) / 256) = (a4 : Int) ∧
    IntKind.u64.wrap ((a4 : Int) + (a4 : Int) / 65536) = (a5 : Int) ∧
    IntKind.u64.wrap ((a5 : Int) + (a5 : Int) / 4294967296) = (a6 : Int) ∧
    a6 < 2000000000000000000 ∧ a6 % 128 = cnt x.testBit 64 := by
  have m5 : rep 5 16 = 6148914691236517205 := by decide
  have m3 : rep 3 16 = 3689348814741910323 := by decide
  have m15 : rep8 15 8 = 1085102592571150095 := by decide
  have s1 := step1 16 x
  have s2 := step2 16 x
  have s3 := step3 8 x
  rw [m5] at s1
  rw [m3] at s2
  rw [m15] at s3
  have l1 : nib q1 16 x < 18446744073709551616 := nib_lt q1 q1_lt 16 x
  have l2 : nib pop4 16 x < 18446744073709551616 := nib_lt pop4 pop4_lt 16 x
  obtain ⟨c0, c1, c2, c3, c4, c5, c6, c7, X1, X2, X3, X4, X5, X6, h0, h1, h2, h3, h4, h5, h6, h7, e6, e5, e4, e3, e2, e1, e0, hcnt⟩ := ones_sum x
  obtain ⟨r1, r2, r3, r4, r5⟩ := last_steps c0 c1 c2 c3 c4 c5 c6 c7 (byt 8 x) X1 X2 X3 X4 X5 X6 _ _ h0 h1 h2 h3 h4 h5 h6 h7 e6 e5 e4 e3 e2 e1 e0 rfl rfl
  have l3 : nib pop4 16 x / 16 + nib pop4 16 x < 18446744073709551616 := by
    have h := nib_le 16 x
    have m1 : rep 1 16 = 1229782938247303441 := by decide
    rw [m1] at h
    clear s1 s2 s3 l1 r1 r2 r3 r4 r5 e6 e5 e4 e3 e2 e1 e0 hcnt
    generalize nib pop4 16 x = y at h
    omega
  rw [← hcnt] at r1
  clear h0 h1 h2 h3 h4 h5 h6 h7 e6 e5 e4 e3 e2 e1 e0 hcnt m5 m3 m15
  rw [show 2 * 8 = 16 from rfl] at s3
  generalize nib q1 16 x = A1 at *
  generalize nib pop4 16 x = A2 at *
  generalize byt 8 x = A3 at *
  obtain ⟨A4, hA4⟩ : ∃ A4, A3 + A3 / 256 = A4 := ⟨_, rfl⟩
  rw [hA4] at r1 r2 r3 r5
  obtain ⟨A5, hA5⟩ : ∃ A5, A4 + A4 / 65536 = A5 := ⟨_, rfl⟩
  rw [hA5] at r1 r2 r3
  obtain ⟨A6, hA6⟩ : ∃ A6, A5 + A5 / 4294967296 = A6 := ⟨_, rfl⟩
  rw [hA6] at r1 r2
  refine ⟨A1, A2, A3, A4, A5, A6, ?_, ?_, ?_, ?_, ?_, ?_, r2, r1⟩
  · have k1 : bits BinOp.and IntKind.u64 ((x : Int) / 2) 6148914691236517205 = ((x / 2 &&& 6148914691236517205 : Nat) : Int) := and_nat (x / 2) 6148914691236517205 (Nat.lt_of_le_of_lt (Nat.div_le_self _ _) hx) (by decide) _ _ (by simp) rfl
    have k2 : bits BinOp.and IntKind.u64 (x : Int) 6148914691236517205 = ((x &&& 6148914691236517205 : Nat) : Int) := and_nat x 6148914691236517205 hx (by decide) _ _ rfl rfl
    rw [k1, k2, ← Int.natCast_add, s1, wrap_nat _ l1]
  · have k1 : bits BinOp.and IntKind.u64 ((A1 : Int) / 4) 3689348814741910323 = ((A1 / 4 &&& 3689348814741910323 : Nat) : Int) := and_nat (A1 / 4) 3689348814741910323 (Nat.lt_of_le_of_lt (Nat.div_le_self _ _) l1) (by decide) _ _ (by simp) rfl
    have k2 : bits BinOp.and IntKind.u64 (A1 : Int) 3689348814741910323 = ((A1 &&& 3689348814741910323 : Nat) : Int) := and_nat A1 3689348814741910323 l1 (by decide) _ _ rfl rfl
    rw [k1, k2, ← Int.natCast_add, s2, wrap_nat _ l2]
  · have k0 : IntKind.u64.wrap ((A2 : Int) / 16 + (A2 : Int)) = ((A2 / 16 + A2 : Nat) : Int) := by rw [← wrap_nat _ l3]; simp
    rw [k0, ← s3]
    exact and_nat (A2 / 16 + A2) 1085102592571150095 l3 (by decide) _ _ rfl rfl
  · rw [← hA4, ← wrap_nat (A3 + A3 / 256) (by rw [hA4]; exact Nat.lt_trans r5 (by decide))]; simp
  · rw [← hA5, ← wrap_nat (A4 + A4 / 65536) (by rw [hA5]; exact Nat.lt_trans r3 (by decide))]; simp
  · rw [← hA6, ← wrap_nat (A5 + A5 / 4294967296) (by rw [hA6]; exact Nat.lt_trans r2 (by decide))]; simp

theorem low7 (a : Nat) (h : a < 2000000000000000000) : bits BinOp.and IntKind.i64 (a : Int) 127 = ((a % 128 : Nat) : Int) := by
  have hk := (bits_nat IntKind.i64 63 (by decide) (fun n h0 h1 => by rw [IntKind.wrap_i64]; omega) a 127 (Nat.lt_trans h (by decide)) (by decide)).1
  have e : a &&& 127 = a % 128 := Nat.and_two_pow_sub_one_eq_mod a 7
  rw [e] at hk
  exact hk

set_option maxHeartbeats 1000000 in
theorem ones_any (x : Nat) (hx : x < 18446744073709551616) (w : World) :
    Calls Try.prog 40 #[.int .u64 (x : Int)] w fun e w' => e = .returned (.int .i64 (cnt x.testBit 64)) ∧ w' = w := by
  obtain ⟨a1, a2, a3, a4, a5, a6, e1, e2, e3, e4, e5, e6, hl, hc⟩ := ones_steps x hx
  have HC : Hid (a6 % 128 = cnt x.testBit 64) := hc
  clear hc
  go_enter Try.func40, Try.ntmps40
  go_wp2
  go_ret
  exact ⟨ret_int (by rw [low7 a6 hl, HC.out]), rfl⟩
end Go.Proofs.Ytifmebeffihkmaa
