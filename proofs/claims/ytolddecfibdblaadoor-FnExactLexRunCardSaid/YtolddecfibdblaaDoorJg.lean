/- parts of all bytes, and how many bytes they have; no Go text is walked here -/
import Derived.Test.YtolddecfibdblaaDoorJa
import Derived.Test.YtolddecfibdblaaDoorBw
import Derived.Test.YtolddecfibdblaaDoorBz
import Derived.Test.YtolddecfibdblaaDoorBf
import Derived.Test.YtolddecfibdblaaDoorBm
namespace Go.Proofs.YtolddecfibdblaaDoor
open Go.RowKit
set_option linter.unusedVariables false
set_option linter.unusedSimpArgs false

/-- the bytes of set i -/
def Sb (N : Nest) (i : Nat) : Nat → Bool := hs (N.n i) (N.L i) (N.H i)
/-- no byte is in both -/
def Dis (A B : Nat → Bool) : Prop := ∀ x, x < 256 → ¬ (A x = true ∧ B x = true)
/-- set k is as it must be, behind those ahead of it -/
structure PAt (N : Nest) (k : Nat) : Prop where
  ok : okB (N.n k) (N.L k) (N.H k) = true
  ne : ∃ x, x < 256 ∧ Sb N k x = true
  ord : 0 < k → ∀ r r', FirstB (Sb N (k - 1)) r → FirstB (Sb N k) r' → r < r'
  dis : ∀ j, j < k → Dis (Sb N k) (Sb N j)
/-- the first k are -/
def PUpto (N : Nest) (k : Nat) : Prop := ∀ i, i < k → PAt N i
/-- the bytes of the first k -/
def uni (N : Nest) : Nat → Nat → Bool
  | 0 => fun _ => false
  | k + 1 => fun x => uni N k x || Sb N k x
/-- they are parts of all bytes -/
def PartsGood (n : Nat) (N : Nest) : Prop := PUpto N n ∧ ∀ x, x < 256 → uni N n x = true
/-- how many bytes the first k have together -/
def sumCb (N : Nest) : Nat → Nat
  | 0 => 0
  | k + 1 => sumCb N k + cntb (Sb N k) 256

theorem uni_iff {N : Nest} {k x : Nat} : uni N k x = true ↔ ∃ j, j < k ∧ Sb N j x = true := by
  induction k with
  | zero => simp [uni]
  | succ k ih =>
    simp only [uni, Bool.or_eq_true, ih]
    constructor
    · rintro (⟨j, h1, h2⟩ | h)
      · exact ⟨j, by omega, h2⟩
      · exact ⟨k, by omega, h⟩
    · rintro ⟨j, h1, h2⟩
      by_cases e : j = k
      · subst e; exact .inr h2
      · exact .inl ⟨j, by omega, h2⟩
theorem cntb_or {A B : Nat → Bool} {k : Nat} (h : ∀ x, x < k → ¬ (A x = true ∧ B x = true)) : cntb (fun x => A x || B x) k = cntb A k + cntb B k := by
  induction k with
  | zero => rfl
  | succ k ih =>
    have := h k (by omega)
    rw [cntb, cntb, cntb, ih (fun x hx => h x (by omega))]
    cases ha : A k <;> cases hb : B k <;> simp_all <;> omega
theorem cntb_all {B : Nat → Bool} {k : Nat} : cntb B k = k ↔ ∀ x, x < k → B x = true := by
  induction k with
  | zero => simp [cntb]
  | succ k ih =>
    have := cntb_le B k
    rw [cntb]
    constructor
    · intro h x hx
      cases hb : B k
      · rw [hb] at h; simp at h; omega
      · rw [hb] at h
        by_cases e : x = k
        · subst e; exact hb
        · exact ih.1 (by simpa using h) x (by omega)
    · intro h
      rw [ih.2 (fun x hx => h x (by omega)), h k (by omega)]
      simp
theorem cntb_none (k : Nat) : cntb (fun _ => false) k = 0 := by
  induction k with
  | zero => rfl
  | succ k ih => rw [cntb, ih]; simp
theorem cnt_uni {N : Nest} {k : Nat} (h : PUpto N k) : cntb (uni N k) 256 = sumCb N k := by
  induction k with
  | zero => exact cntb_none 256
  | succ k ih =>
    have e : uni N (k + 1) = fun x => uni N k x || Sb N k x := rfl
    rw [e, cntb_or, ih (fun i hi => h i (by omega)), sumCb]
    intro x hx ⟨h1, h2⟩
    obtain ⟨j, hj, hjx⟩ := uni_iff.1 h1
    exact (h k (by omega)).dis j hj x hx ⟨h2, hjx⟩
theorem sum_le {N : Nest} {k : Nat} (h : PUpto N k) : sumCb N k ≤ 256 := by rw [← cnt_uni h]; exact cntb_le _ _
theorem good_of_sum {n : Nat} {N : Nest} (h : PUpto N n) : PartsGood n N ↔ sumCb N n = 256 := by
  rw [← cnt_uni h, cntb_all]
  exact ⟨fun g => g.2, fun g => ⟨h, g⟩⟩
theorem PUpto.snoc {N : Nest} {k : Nat} (h : PUpto N k) (h1 : PAt N k) : PUpto N (k + 1) := fun i hi => by
  by_cases e : i = k
  · subst e; exact h1
  · exact h i (by omega)

theorem first_exists (B : Nat → Bool) : ∃ r : Int, FirstB B r := by
  have key : ∀ k, k ≤ 256 → (∀ x, x < k → B x = false) ∨ ∃ x, x < k ∧ B x = true ∧ ∀ y, y < x → B y = false := by
    intro k hk
    induction k with
    | zero => exact .inl (fun x hx => absurd hx (Nat.not_lt_zero _))
    | succ k ih =>
      rcases ih (by omega) with h | ⟨x, h1, h2, h3⟩
      · cases hb : B k
        · exact .inl (fun x hx => by by_cases e : x = k; exact e ▸ hb; exact h x (by omega))
        · exact .inr ⟨k, by omega, hb, h⟩
      · exact .inr ⟨x, by omega, h2, h3⟩
  rcases key 256 (Nat.le_refl _) with h | ⟨x, h1, h2, h3⟩
  · exact ⟨-1, .inl ⟨rfl, h⟩⟩
  · exact ⟨x, .inr ⟨x, h1, rfl, h2, h3⟩⟩
theorem FirstB.bd {B : Nat → Bool} {r : Int} (h : FirstB B r) : -1 ≤ r ∧ r < 256 := by
  rcases h with ⟨h, _⟩ | ⟨x, h1, h2, _⟩ <;> omega
theorem FirstB.ne {B : Nat → Bool} {r : Int} (h : FirstB B r) (h0 : -1 < r) : ∃ x, x < 256 ∧ B x = true := by
  rcases h with ⟨h, _⟩ | ⟨x, h1, h2, h3, _⟩
  · omega
  · exact ⟨x, h1, h3⟩
theorem FirstB.pos {B : Nat → Bool} {r : Int} (h : FirstB B r) (hn : ∃ x, x < 256 ∧ B x = true) : 0 ≤ r := by
  obtain ⟨y, h1, h2⟩ := hn
  rcases h with ⟨h, h3⟩ | ⟨x, h3, h4, _⟩
  · rw [h3 y h1] at h2; cases h2
  · omega

/-- a set that is ok has bytes just if it has spans -/
theorem ok_ne {n : Nat} {L H : Nat → Int} (hok : okB n L H = true) : (∃ x, x < 256 ∧ hs n L H x = true) ↔ n ≠ 0 := by
  constructor
  · rintro ⟨x, _, h⟩ e
    subst e
    simp [hs, hasB] at h
  · intro hn
    have h0 := okB_iff.1 hok 0 (by omega)
    unfold OkAt at h0
    refine ⟨(L 0).toNat, by omega, ?_⟩
    rw [hs, hasB_iff]
    exact ⟨0, by omega, by omega, by omega⟩
theorem runs_nil {B : Nat → Bool} {k : Nat} : (runs B k).length = 0 ↔ ∀ x, x < k → B x = false := by
  induction k with
  | zero => simp [runs]
  | succ k ih =>
    rw [runs]
    cases hb : B k
    · simp only [Bool.false_eq_true, if_false]
      rw [ih]
      exact ⟨fun h x hx => by by_cases e : x = k; exact e ▸ hb; exact h x (by omega), fun h x hx => h x (by omega)⟩
    · simp only [if_true]
      constructor
      · intro h
        exfalso
        unfold ext at h
        split at h
        · split at h <;> simp at h
        · simp at h
      · intro h
        have := h k (by omega)
        rw [hb] at this; cases this
/-- the meet of two that are ok has no spans just if no byte is in both -/
theorem meet_nil {n m : Nat} {L H L' H' : Nat → Int} (h : okB n L H = true) (h' : okB m L' H' = true) :
    (setR (okB n L H && okB m L' H') (fun x => hs n L H x && hs m L' H' x)).length = 0 ↔ Dis (hs n L H) (hs m L' H') := by
  rw [h, h']
  simp only [setR, Bool.and_self, if_true, runs_nil, Bool.and_eq_false_iff]
  constructor
  · intro h x hx ⟨h1, h2⟩
    rcases h x hx with h3 | h3
    · rw [h3] at h1; cases h1
    · rw [h3] at h2; cases h2
  · intro h x hx
    have := h x hx
    cases h1 : hs n L H x
    · exact .inl rfl
    · cases h2 : hs m L' H' x
      · exact .inr rfl
      · exact absurd ⟨h1, h2⟩ this
theorem runs_le (B : Nat → Bool) : (runs B 256).length ≤ 256 := runs_len B 256
end Go.Proofs.YtolddecfibdblaaDoor

