/- parts of all bytes, and how many bytes they have; no Go text is walked here -/
import Derived.Test.YtjpmdbaalhieoaaDoorJa
import Derived.Test.YtjpmdbaalhieoaaDoorBw
import Derived.Test.YtjpmdbaalhieoaaDoorBf
import Derived.Test.YtjpmdbaalhieoaaDoorBm
namespace Go.Proofs.YtjpmdbaalhieoaaDoor
open Go.RowKit
set_option linter.unusedVariables false
set_option linter.unusedSimpArgs false

/-- the bytes of set i -/
def Sb (N : Nest) (i : Nat) : Nat → Bool := hs (N.n i) (N.L i) (N.H i)
/-- no byte is in both -/
def Dis (A B : Nat → Bool) : Prop := ∀ x, x < 256 → ¬ (A x = true ∧ B x = true)
/-- set k is as it must be, behind those ahead of it -/
structure PAt (N : Nest) (k : Nat) : Prop where
  ok : okB (N.n k) (N.L k) (N.H k) = true
  ne : ∃ x, x < 256 ∧ Sb N k x = true
  ord : 0 < k → ∀ r r', FirstB (Sb N (k - 1)) r → FirstB (Sb N k) r' → r < r'
  dis : ∀ j, j < k → Dis (Sb N k) (Sb N j)
/-- the first k are -/
def PUpto (N : Nest) (k : Nat) : Prop := ∀ i, i < k → PAt N i
/-- the bytes of the first k -/
def uni (N : Nest) : Nat → Nat → Bool
  | 0 => fun _ => false
  | k + 1 => fun x => uni N k x || Sb N k x
/-- they are parts of all bytes -/
def PartsGood (n : Nat) (N : Nest) : Prop := PUpto N n ∧ ∀ x, x < 256 → uni N n x = true
theorem first_exists (B : Nat → Bool) : ∃ r : Int, FirstB B r := by
  have key : ∀ k, k ≤ 256 → (∀ x, x < k → B x = false) ∨ ∃ x, x < k ∧ B x = true ∧ ∀ y, y < x → B y = false := by
    intro k hk
    induction k with
    | zero => exact .inl (fun x hx => absurd hx (Nat.not_lt_zero _))
    | succ k ih =>
      rcases ih (by omega) with h | ⟨x, h1, h2, h3⟩
      · cases hb : B k
        · exact .inl (fun x hx => by by_cases e : x = k; exact e ▸ hb; exact h x (by omega))
        · exact .inr ⟨k, by omega, hb, h⟩
      · exact .inr ⟨x, by omega, h2, h3⟩
  rcases key 256 (Nat.le_refl _) with h | ⟨x, h1, h2, h3⟩
  · exact ⟨-1, .inl ⟨rfl, h⟩⟩
  · exact ⟨x, .inr ⟨x, h1, rfl, h2, h3⟩⟩
theorem FirstB.bd {B : Nat → Bool} {r : Int} (h : FirstB B r) : -1 ≤ r ∧ r < 256 := by
  rcases h with ⟨h, _⟩ | ⟨x, h1, h2, _⟩ <;> omega
theorem FirstB.ne {B : Nat → Bool} {r : Int} (h : FirstB B r) (h0 : -1 < r) : ∃ x, x < 256 ∧ B x = true := by
  rcases h with ⟨h, _⟩ | ⟨x, h1, h2, h3, _⟩
  · omega
  · exact ⟨x, h1, h3⟩
theorem FirstB.pos {B : Nat → Bool} {r : Int} (h : FirstB B r) (hn : ∃ x, x < 256 ∧ B x = true) : 0 ≤ r := by
  obtain ⟨y, h1, h2⟩ := hn
  rcases h with ⟨h, h3⟩ | ⟨x, h3, h4, _⟩
  · rw [h3 y h1] at h2; cases h2
  · omega

theorem runs_nil {B : Nat → Bool} {k : Nat} : (runs B k).length = 0 ↔ ∀ x, x < k → B x = false := by
  induction k with
  | zero => simp [runs]
  | succ k ih =>
    rw [runs]
    cases hb : B k
    · simp only [Bool.false_eq_true, if_false]
      rw [ih]
      exact ⟨fun h x hx => by by_cases e : x = k; exact e ▸ hb; exact h x (by omega), fun h x hx => h x (by omega)⟩
    · simp only [if_true]
      constructor
      · intro h
        exfalso
        unfold ext at h
        split at h
        · split at h <;> simp at h
        · simp at h
      · intro h
        have := h k (by omega)
        rw [hb] at this; cases this
theorem runs_le (B : Nat → Bool) : (runs B 256).length ≤ 256 := runs_len B 256
end Go.Proofs.YtjpmdbaalhieoaaDoor

