/- the walks of l8Acc, l8To, numberAt, nextBy, differs, behind -/
import Derived.Test.YtjpmdbaalhieoaaDoorJn
import Derived.Deep.WholeRow
import Derived.Deep.MidRow
import Derived.Test.YtjpmdbaalhieoaaDoorKa
import Derived.Test.YtjpmdbaalhieoaaDoorJf
import Derived.Deep.RegionHeld
namespace Go.Proofs.YtjpmdbaalhieoaaDoor
open Go.RowKit
set_option linter.unusedVariables false
set_option linter.unusedSimpArgs false

/-- the state behind a byte, of a machine that is one, from a state that is one -/
def NextOf (D : Dx) (s : Nat) (x : Int) (r : Int) : Prop := (∃ k, k < D.pn ∧ hasB (D.P.n k) (D.P.L k) (D.P.H k) x = true ∧ r = D.R.G s k) ∨ ((∀ k, k < D.pn → hasB (D.P.n k) (D.P.L k) (D.P.H k) x = false) ∧ r = -1)
/-- a byte of a set that is ok is one -/
theorem has_byte {n : Nat} {L H : Nat → Int} {x : Int} (hok : okB n L H = true) (h : hasB n L H x = true) : 0 ≤ x ∧ x ≤ 255 := by
  obtain ⟨i, hi, h1, h2⟩ := hasB_iff.1 h
  have := okB_iff.1 hok i hi
  unfold OkAt at this
  omega
theorem one_part {D : Dx} (h : DOk D) {x : Int} {i j : Nat} (hi : i < D.pn) (hj : j < D.pn) (h1 : hasB (D.P.n i) (D.P.L i) (D.P.H i) x = true) (h2 : hasB (D.P.n j) (D.P.L j) (D.P.H j) x = true) : i = j := by
  have hx := has_byte (h.1.1 i hi).ok h1
  have e : ((x.toNat : Nat) : Int) = x := by omega
  have key : ∀ a b : Nat, b < a → a < D.pn → hasB (D.P.n a) (D.P.L a) (D.P.H a) x = true → hasB (D.P.n b) (D.P.L b) (D.P.H b) x = true → False := fun a b hab ha g1 g2 =>
    (h.1.1 a ha).dis b hab x.toNat (by omega) ⟨by rw [Sb, hs, e]; exact g1, by rw [Sb, hs, e]; exact g2⟩
  rcases Nat.lt_trichotomy i j with g | g | g
  · exact (key j i g hj h2 h1).elim
  · exact g
  · exact (key i j g hi h1 h2).elim
theorem NextOf.unique {D : Dx} (h : DOk D) {s : Nat} {x r r' : Int} (h1 : NextOf D s x r) (h2 : NextOf D s x r') : r = r' := by
  rcases h1 with ⟨i, hi, g1, rfl⟩ | ⟨g1, rfl⟩ <;> rcases h2 with ⟨j, hj, g2, rfl⟩ | ⟨g2, rfl⟩
  · rw [one_part h hi hj g1 g2]
  · rw [g2 i hi] at g1; cases g1
  · rw [g1 j hj] at g2; cases g2
  · rfl
theorem NextOf.bd {D : Dx} (h : DOk D) {s : Nat} (hs : s < D.rn) {x r : Int} (h1 : NextOf D s x r) : -1 ≤ r ∧ r ≤ (D.rn : Int) - 1 := by
  rcases h1 with ⟨i, hi, _, rfl⟩ | ⟨_, rfl⟩
  · have := h.at hs
    exact this.2.1 i (by rw [this.1]; exact hi)
  · have := h.2.1.1; omega
theorem NextOf.congr {D D' : Dx} (e : DEq D D') {s : Nat} (hs : s < D.rn) (hl : D.R.n s = D.pn) {x r : Int} (h : NextOf D s x r) : NextOf D' s x r := by
  obtain ⟨⟨e1, f1⟩, ⟨e2, f2⟩, _⟩ := e
  have hb : ∀ k, k < D.pn → hasB (D'.P.n k) (D'.P.L k) (D'.P.H k) x = hasB (D.P.n k) (D.P.L k) (D.P.H k) x := fun k hk => by
    obtain ⟨g1, g2⟩ := f1 k hk
    rw [Bool.eq_iff_iff, hasB_iff, hasB_iff, ← g1]
    exact ⟨fun ⟨i, h1, h2⟩ => ⟨i, h1, by rw [(g2 i h1).1, (g2 i h1).2]; exact h2⟩, fun ⟨i, h1, h2⟩ => ⟨i, h1, by rw [← (g2 i h1).1, ← (g2 i h1).2]; exact h2⟩⟩
  rcases h with ⟨k, hk, h1, h2⟩ | ⟨h1, h2⟩
  · exact .inl ⟨k, by rw [← e1]; exact hk, by rw [hb k hk]; exact h1, by rw [h2]; exact (f2 s hs).2 k (by rw [hl]; exact hk)⟩
  · exact .inr ⟨fun k hk => by rw [hb k (by rw [e1]; exact hk)]; exact h1 k (by rw [e1]; exact hk), h2⟩

end Go.Proofs.YtjpmdbaalhieoaaDoor
namespace Go.Proofs.YtjpmdbaalhieoaaDoor
open Go.RowKit
set_option linter.unusedVariables false
set_option linter.unusedSimpArgs false

theorem bk_has {D : Dx} (h : DOk D) {k : Nat} (hk : k < D.pn) : Sb D.P k (bk D k) = true := by
  obtain ⟨r, hr⟩ := first_exists (Sb D.P k)
  have h0 := hr.pos (h.1.1 k hk).ne
  have e := bk_eq hr h0
  rcases hr with ⟨g, _⟩ | ⟨x, h1, h2, h3, _⟩
  · omega
  · have : x = bk D k := by omega
    rw [← this]; exact h3
theorem NextOf.bk {D : Dx} (h : DOk D) {s k : Nat} (hk : k < D.pn) {r : Int} (hr : NextOf D s (bk D k : Int) r) : r = D.R.G s k := by
  have hb := bk_has h hk
  exact hr.unique h (.inl ⟨k, hk, hb, rfl⟩)

end Go.Proofs.YtjpmdbaalhieoaaDoor

