/- the walks of DfaRun: the model's side -/
import Derived.Test.YtolddecfibdblaaDoorJr
namespace Go.Proofs.YtolddecfibdblaaDoor
open Go.RowKit
set_option linter.unusedVariables false
set_option linter.unusedSimpArgs false

/-- byte i of a text -/
def byteAt (t : ByteArray) (i : Nat) : Nat := if h : i < t.size then (t[i]'h).toNat else 0
theorem byteAt_lt (t : ByteArray) (i : Nat) : byteAt t i < 256 := by
  unfold byteAt
  split
  · exact UInt8.toNat_lt _
  · omega
theorem byteAt_eq {t : ByteArray} {i : Nat} {x : UInt8} (h : i < t.size) (hx : t[i]'h = x) : byteAt t i = x.toNat := by rw [byteAt, dif_pos h, hx]
/-- the state behind the first i bytes; once below 0 it stays -/
def RunAt (D : Dx) (t : ByteArray) : Nat → Int → Prop
  | 0 => fun r => r = 0
  | i + 1 => fun r => ∃ s, RunAt D t i s ∧ ((s < 0 ∧ r = s) ∨ (0 ≤ s ∧ NextOf D s.toNat (byteAt t i) r))
theorem RunAt.bd {D : Dx} (h : DOk D) {t : ByteArray} {i : Nat} {r : Int} (hr : RunAt D t i r) : -1 ≤ r ∧ r ≤ (D.rn : Int) - 1 := by
  induction i generalizing r with
  | zero => have := h.2.1.1; simp only [RunAt] at hr; omega
  | succ i ih =>
    obtain ⟨s, hs, h1⟩ := hr
    have hb := ih hs
    rcases h1 with ⟨h1, rfl⟩ | ⟨h1, h2⟩
    · omega
    · exact h2.bd h (by omega)
theorem RunAt.unique {D : Dx} (h : DOk D) {t : ByteArray} {i : Nat} {r r' : Int} (h1 : RunAt D t i r) (h2 : RunAt D t i r') : r = r' := by
  induction i generalizing r r' with
  | zero => exact h1.trans h2.symm
  | succ i ih =>
    obtain ⟨s, hs, g1⟩ := h1
    obtain ⟨s', hs', g2⟩ := h2
    obtain rfl := ih hs hs'
    rcases g1 with ⟨a, rfl⟩ | ⟨a, b⟩ <;> rcases g2 with ⟨c, rfl⟩ | ⟨c, d⟩
    · rfl
    · omega
    · omega
    · exact b.unique h d
theorem RunAt.stay {D : Dx} {t : ByteArray} {i j : Nat} {r : Int} (hr : r < 0) (h : RunAt D t i r) (hj : i ≤ j) : RunAt D t j r := by
  induction j with
  | zero => obtain rfl : i = 0 := by omega
            exact h
  | succ j ih =>
    by_cases e : i = j + 1
    · exact e ▸ h
    · exact ⟨r, ih (by omega), .inl ⟨hr, rfl⟩⟩
theorem RunAt.congr {D D' : Dx} (e : DEq D D') (h : DOk D) {t : ByteArray} {i : Nat} {r : Int} (hr : RunAt D t i r) : RunAt D' t i r := by
  induction i generalizing r with
  | zero => exact hr
  | succ i ih =>
    obtain ⟨s, hs, h1⟩ := hr
    have hb := hs.bd h
    refine ⟨s, ih hs, ?_⟩
    rcases h1 with h1 | ⟨h1, h2⟩
    · exact .inl h1
    · exact .inr ⟨h1, h2.congr e (by omega) (h.at (by omega)).1⟩
theorem RunAt.exists {D : Dx} (h : DOk D) (t : ByteArray) (i : Nat) : ∃ r, RunAt D t i r := by
  induction i with
  | zero => exact ⟨0, rfl⟩
  | succ i ih =>
    obtain ⟨s, hs⟩ := ih
    by_cases h0 : s < 0
    · exact ⟨s, s, hs, .inl ⟨h0, rfl⟩⟩
    · obtain ⟨k, hk, hS⟩ := some_part h (byteAt_lt t i)
      exact ⟨D.R.G s.toNat k, s, hs, .inr ⟨by omega, .inl ⟨k, hk, hS, rfl⟩⟩⟩
/-- what DfaRun tells -/
def RunR (D : Dx) (t : ByteArray) (r : Int) : Prop := (DOk D ∧ RunAt D t t.size r) ∨ (¬ DOk D ∧ r = -1)
theorem RunR.unique {D : Dx} {t : ByteArray} {r r' : Int} (h : RunR D t r) (h' : RunR D t r') : r = r' := by
  rcases h with ⟨a, b⟩ | ⟨a, rfl⟩ <;> rcases h' with ⟨c, d⟩ | ⟨c, rfl⟩
  · exact b.unique a d
  · exact absurd a c
  · exact absurd c a
  · rfl
theorem RunR.congr {D D' : Dx} (e : DEq D D') {t : ByteArray} {r : Int} (h : RunR D t r) : RunR D' t r := by
  rcases h with ⟨a, b⟩ | ⟨a, rfl⟩
  · exact .inl ⟨a.congr e, b.congr e a⟩
  · exact .inr ⟨fun h => a (h.congr e.symm), rfl⟩
theorem RunR.exists (D : Dx) (t : ByteArray) : ∃ r, RunR D t r := by
  by_cases h : DOk D
  · obtain ⟨r, hr⟩ := RunAt.exists h t t.size
    exact ⟨r, .inl ⟨h, hr⟩⟩
  · exact ⟨-1, .inr ⟨h, rfl⟩⟩

end Go.Proofs.YtolddecfibdblaaDoor

