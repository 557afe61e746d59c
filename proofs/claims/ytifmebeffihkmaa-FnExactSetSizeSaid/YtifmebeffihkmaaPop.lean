/- How many bits a word has: the steps of OnesCount64, in plain numbers. -/
import Derived.Test.YtifmebeffihkmaaBits
namespace Go.Proofs.Ytifmebeffihkmaa

/-- how many of the first k are so -/
def cnt (B : Nat → Bool) : Nat → Nat
  | 0 => 0
  | k + 1 => cnt B k + (if B k then 1 else 0)

theorem cnt_add (B : Nat → Bool) (m k : Nat) : cnt B (m + k) = cnt B m + cnt (fun j => B (m + j)) k := by
  induction k with
  | zero => rfl
  | succ k ih =>
    rw [show m + (k + 1) = (m + k) + 1 from rfl, cnt, cnt, ih]
    omega
theorem cnt_congr {A B : Nat → Bool} {k : Nat} (h : ∀ x, x < k → A x = B x) : cnt A k = cnt B k := by
  induction k with
  | zero => rfl
  | succ k ih => rw [cnt, cnt, ih (fun x hx => h x (by omega)), h k (by omega)]
theorem cnt_le (B : Nat → Bool) (k : Nat) : cnt B k ≤ k := by
  induction k with
  | zero => exact Nat.le_refl _
  | succ k ih => rw [cnt]; split <;> omega

/-- the bits of a number below 16 -/
def pop4 (h : Nat) : Nat := cnt h.testBit 4

theorem and_split (t a b A B : Nat) (ha : a < 2 ^ t) (hb : b < 2 ^ t) : (a + 2 ^ t * A) &&& (b + 2 ^ t * B) = (a &&& b) + 2 ^ t * (A &&& B) := by
  refine Nat.eq_of_testBit_eq (fun j => ?_)
  have hab : a &&& b < 2 ^ t := Nat.and_lt_two_pow _ hb
  rw [Nat.testBit_and, Nat.add_comm a, Nat.add_comm b, Nat.add_comm (a &&& b), Nat.testBit_two_pow_mul_add _ ha, Nat.testBit_two_pow_mul_add _ hb, Nat.testBit_two_pow_mul_add _ hab]
  by_cases h : j < t
  · simp [h, Nat.testBit_and]
  · simp [h, Nat.testBit_and]

theorem and16 (a b A B : Nat) (ha : a < 16) (hb : b < 16) : (a + 16 * A) &&& (b + 16 * B) = (a &&& b) + 16 * (A &&& B) := and_split 4 a b A B ha hb
theorem and256 (a b A B : Nat) (ha : a < 256) (hb : b < 256) : (a + 256 * A) &&& (b + 256 * B) = (a &&& b) + 256 * (A &&& B) := and_split 8 a b A B ha hb

/-- a nibble again and again -/
def rep (m : Nat) : Nat → Nat
  | 0 => 0
  | k + 1 => m + 16 * rep m k
/-- a byte again and again -/
def rep8 (m : Nat) : Nat → Nat
  | 0 => 0
  | k + 1 => m + 256 * rep8 m k

/-- nibble by nibble -/
def nib (f : Nat → Nat) : Nat → Nat → Nat
  | 0, _ => 0
  | k + 1, x => f (x % 16) + 16 * nib f k (x / 16)

def q1 (h : Nat) : Nat := (h / 2 &&& 5) + (h &&& 5)

theorem q1_lt : ∀ h, h < 16 → q1 h < 16 := by decide
theorem q1_pop : ∀ h, h < 16 → (q1 h / 4 &&& 3) + (q1 h &&& 3) = pop4 h := by decide
theorem half5 : ∀ h, h < 16 → ∀ y, y < 2 → (h / 2 + 8 * y) &&& 5 = h / 2 &&& 5 := by decide
theorem quart3 : ∀ h, h < 16 → ∀ y, y < 4 → (h / 4 + 4 * y) &&& 3 = h / 4 &&& 3 := by decide
theorem pop4_le (h : Nat) : pop4 h ≤ 4 := cnt_le _ _

theorem step1 (k x : Nat) : (x / 2 &&& rep 5 k) + (x &&& rep 5 k) = nib q1 k x := by
  induction k generalizing x with
  | zero => simp [rep, nib]
  | succ k ih =>
    have e1 : x = x % 16 + 16 * (x / 16) := by omega
    have e2 : x / 2 = (x % 16 / 2 + 8 * (x / 16 % 2)) + 16 * (x / 16 / 2) := by omega
    have h1 : x / 2 &&& rep 5 (k + 1) = (x % 16 / 2 &&& 5) + 16 * (x / 16 / 2 &&& rep 5 k) := by
      rw [e2, rep, and16 _ _ _ _ (by omega) (by omega), half5 _ (by omega) _ (by omega)]
    have h2 : x &&& rep 5 (k + 1) = (x % 16 &&& 5) + 16 * (x / 16 &&& rep 5 k) := by
      rw [rep]
      exact (congrArg (fun z => z &&& (5 + 16 * rep 5 k)) e1).trans (and16 _ _ _ _ (by omega) (by omega))
    rw [h1, h2, nib, ← ih (x / 16), q1]
    omega

theorem step2 (k x : Nat) : (nib q1 k x / 4 &&& rep 3 k) + (nib q1 k x &&& rep 3 k) = nib pop4 k x := by
  induction k generalizing x with
  | zero => simp [rep, nib]
  | succ k ih =>
    have hq := q1_lt (x % 16) (by omega)
    have hp := q1_pop (x % 16) (by omega)
    have i := ih (x / 16)
    rw [nib, nib, rep]
    generalize q1 (x % 16) = q at hq hp
    generalize nib q1 k (x / 16) = Y at i
    have e2 : (q + 16 * Y) / 4 = (q / 4 + 4 * (Y % 4)) + 16 * (Y / 4) := by omega
    rw [e2, and16 _ _ _ _ (by omega) (by omega), and16 _ _ _ _ (by omega) (by omega), quart3 _ hq _ (by omega), ← hp, ← i]
    omega

/-- byte by byte -/
def byt : Nat → Nat → Nat
  | 0, _ => 0
  | k + 1, x => (pop4 (x % 16) + pop4 (x / 16 % 16)) + 256 * byt k (x / 256)

theorem and15 : ∀ a, a < 16 → ∀ b, b < 16 → (a + 16 * b) &&& 15 = a := by decide

theorem nib_digit (k x : Nat) : nib pop4 k x % 16 ≤ 4 := by
  cases k with
  | zero => simp [nib]
  | succ k => have := pop4_le (x % 16); rw [nib]; omega

theorem step3 (k x : Nat) : (nib pop4 (2 * k) x / 16 + nib pop4 (2 * k) x) &&& rep8 15 k = byt k x := by
  induction k generalizing x with
  | zero => simp [rep8, byt]
  | succ k ih =>
    have i := ih (x / 256)
    have hd := nib_digit (2 * k) (x / 256)
    have h1 := pop4_le (x % 16)
    have h2 := pop4_le (x / 16 % 16)
    rw [show 2 * (k + 1) = 2 * k + 1 + 1 by omega, nib, nib, show x / 16 / 16 = x / 256 by omega, rep8, byt, ← i]
    generalize pop4 (x % 16) = p0 at h1
    generalize pop4 (x / 16 % 16) = p1 at h2
    generalize nib pop4 (2 * k) (x / 256) = Y at hd
    have e : (p0 + 16 * (p1 + 16 * Y)) / 16 + (p0 + 16 * (p1 + 16 * Y)) = ((p0 + p1) + 16 * (p1 + Y % 16)) + 256 * (Y / 16 + Y) := by omega
    rw [e, and256 _ _ _ _ (by omega) (by omega), and15 _ (by omega) _ (by omega)]

theorem cnt_byt (k x : Nat) : cnt x.testBit (8 * (k + 1)) = pop4 (x % 16) + pop4 (x / 16 % 16) + cnt (x / 256).testBit (8 * k) := by
  rw [show 8 * (k + 1) = 4 + (4 + 8 * k) by omega, cnt_add, cnt_add, ← Nat.add_assoc]
  have e1 : cnt x.testBit 4 = pop4 (x % 16) := cnt_congr (fun j hj => by
    have := Nat.testBit_mod_two_pow x 4 j
    simp [hj] at this
    exact this.symm)
  have e2 : cnt (fun j => x.testBit (4 + j)) 4 = pop4 (x / 16 % 16) := cnt_congr (fun j hj => by
    have h1 := Nat.testBit_mod_two_pow (x / 16) 4 j
    have h2 : (x / 2 ^ 4).testBit j = x.testBit (j + 4) := Nat.testBit_div_two_pow x j
    simp [hj] at h1 h2
    rw [h1, h2, Nat.add_comm])
  have e3 : cnt (fun j => x.testBit (4 + (4 + j))) (8 * k) = cnt (x / 256).testBit (8 * k) := cnt_congr (fun j _ => by
    have h2 : (x / 2 ^ 8).testBit j = x.testBit (j + 8) := Nat.testBit_div_two_pow x j
    simp at h2
    rw [h2, show 4 + (4 + j) = j + 8 by omega])
  rw [e1, e2, e3]

theorem div4 (x0 x1 x2 x3 c0 c1 c2 c3 y1 y2 y3 y4 : Nat) (e0 : x0 = c0 + 256 * y1) (e1 : x1 = c1 + 256 * y2) (e2 : x2 = c2 + 256 * y3) (e3 : x3 = c3 + 256 * y4) (h : c0 + c1 + c2 + c3 < 256) :
    (x0 + x1 + x2 + x3) / 256 = y1 + y2 + y3 + y4 := by omega
theorem div2 (x0 x1 c0 c1 y1 y2 : Nat) (e0 : x0 = c0 + 256 * y1) (e1 : x1 = c1 + 256 * y2) (h : c0 + c1 < 256) : (x0 + x1) / 256 = y1 + y2 := by omega
theorem div1 (x0 c0 y1 : Nat) (e0 : x0 = c0 + 256 * y1) (h : c0 < 256) : x0 / 256 = y1 := by omega
theorem bnd (X Y c B B' : Nat) (e : X = c + 256 * Y) (hc : c ≤ 8) (hY : Y ≤ B) (hB : 8 + 256 * B ≤ B') : X ≤ B' := by omega
theorem total (c0 c1 c2 c3 c4 c5 c6 c7 X0 X1 X2 X3 X4 X5 X6 : Nat)
    (e6 : X6 = c6 + 256 * c7) (e5 : X5 = c5 + 256 * X6) (e4 : X4 = c4 + 256 * X5) (e3 : X3 = c3 + 256 * X4) (e2 : X2 = c2 + 256 * X3) (e1 : X1 = c1 + 256 * X2) (e0 : X0 = c0 + 256 * X1) :
    X0 + X1 + X2 + X3 + (X4 + X5 + X6 + c7) = (c0 + c1 + c2 + c3 + c4 + c5 + c6 + c7) + 128 * (2 * (X1 + X2 + X3 + X4 + X5 + X6 + c7)) := by
  have g6 : X5 + X6 + c7 = c5 + c6 + c7 + 256 * (X6 + c7) := by omega
  have g4 : X3 + X4 = c3 + c4 + 256 * (X4 + X5) := by omega
  have g2 : X1 + X2 = c1 + c2 + 256 * (X2 + X3) := by omega
  clear e6 e5 e4 e3 e2 e1
  omega

/-- the last steps: the bytes' counts add up -/
theorem last_steps (c0 c1 c2 c3 c4 c5 c6 c7 X0 X1 X2 X3 X4 X5 X6 a4 a5 : Nat) (h0 : c0 ≤ 8) (h1 : c1 ≤ 8) (h2 : c2 ≤ 8) (h3 : c3 ≤ 8) (h4 : c4 ≤ 8) (h5 : c5 ≤ 8) (h6 : c6 ≤ 8) (h7 : c7 ≤ 8)
    (e6 : X6 = c6 + 256 * c7) (e5 : X5 = c5 + 256 * X6) (e4 : X4 = c4 + 256 * X5) (e3 : X3 = c3 + 256 * X4) (e2 : X2 = c2 + 256 * X3) (e1 : X1 = c1 + 256 * X2) (e0 : X0 = c0 + 256 * X1)
    (f4 : a4 = X0 + X0 / 256) (f5 : a5 = a4 + a4 / 65536) : (a5 + a5 / 4294967296) % 128 = c0 + c1 + c2 + c3 + c4 + c5 + c6 + c7 ∧ a5 + a5 / 4294967296 < 2000000000000000000 ∧ a5 < 2000000000000000000 ∧ X0 < 1000000000000000000 ∧ a4 < 1500000000000000000 := by
  have b6 : X6 ≤ 2056 := bnd _ _ _ 8 _ e6 h6 h7 (by decide)
  have b5 : X5 ≤ 526344 := bnd _ _ _ _ _ e5 h5 b6 (by decide)
  have b4 : X4 ≤ 134744072 := bnd _ _ _ _ _ e4 h4 b5 (by decide)
  have b3 : X3 ≤ 34494482440 := bnd _ _ _ _ _ e3 h3 b4 (by decide)
  have b2 : X2 ≤ 8830587504648 := bnd _ _ _ _ _ e2 h2 b3 (by decide)
  have b1 : X1 ≤ 2260630401189896 := bnd _ _ _ _ _ e1 h1 b2 (by decide)
  have b0 : X0 ≤ 578721382704613384 := bnd _ _ _ _ _ e0 h0 b1 (by decide)
  have tot := total c0 c1 c2 c3 c4 c5 c6 c7 X0 X1 X2 X3 X4 X5 X6 e6 e5 e4 e3 e2 e1 e0
  have g1 : X0 / 256 = X1 := div1 _ _ _ e0 (by omega)
  have g4 : a4 = X0 + X1 := by rw [f4, g1]
  have d1 := div2 X0 X1 c0 c1 X1 X2 e0 e1 (by omega)
  have d2 := div2 X1 X2 c1 c2 X2 X3 e1 e2 (by omega)
  have g5 : a4 / 65536 = X2 + X3 := by rw [g4, show 65536 = 256 * 256 by rfl, ← Nat.div_div_eq_div_mul, d1, d2]
  have g5' : a5 = X0 + X1 + X2 + X3 := by rw [f5, g5, g4, ← Nat.add_assoc]
  have t1 := div4 X0 X1 X2 X3 c0 c1 c2 c3 X1 X2 X3 X4 e0 e1 e2 e3 (by omega)
  have t2 := div4 X1 X2 X3 X4 c1 c2 c3 c4 X2 X3 X4 X5 e1 e2 e3 e4 (by omega)
  have t3 := div4 X2 X3 X4 X5 c2 c3 c4 c5 X3 X4 X5 X6 e2 e3 e4 e5 (by omega)
  have t4 := div4 X3 X4 X5 X6 c3 c4 c5 c6 X4 X5 X6 c7 e3 e4 e5 e6 (by omega)
  have g6 : a5 / 4294967296 = X4 + X5 + X6 + c7 := by
    rw [g5', show 4294967296 = 256 * 256 * 256 * 256 by rfl, ← Nat.div_div_eq_div_mul, ← Nat.div_div_eq_div_mul, ← Nat.div_div_eq_div_mul, t1, t2, t3, t4]
  rw [g6, g5', g4]
  clear g6 g5' g5 g4 t1 t2 t3 t4 d1 d2 g1 f4 f5 e0 e1 e2 e3 e4 e5 e6
  refine ⟨?_, by clear tot; omega, by clear tot; omega, by omega, by clear tot; omega⟩
  rw [tot, Nat.add_mul_mod_self_left, Nat.mod_eq_of_lt (by omega)]
end Go.Proofs.Ytifmebeffihkmaa
