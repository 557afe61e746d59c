/- from which states a rule can be come to; no Go text is walked here -/
import Derived.Test.YtolddecfibdblaaDoorKa
import Derived.Test.YtolddecfibdblaaDoorBz
namespace Go.Proofs.YtolddecfibdblaaDoor
open Go.RowKit
set_option linter.unusedVariables false
set_option linter.unusedSimpArgs false

/-- some part leads from s to a state of which F says so -/
def anyTo (D : Dx) (F : Nat → Bool) (s k : Nat) : Bool := (List.range k).any (fun i => decide (0 ≤ D.R.G s i) && F (D.R.G s i).toNat)
theorem anyTo_iff {D : Dx} {F : Nat → Bool} {s k : Nat} : anyTo D F s k = true ↔ ∃ i, i < k ∧ 0 ≤ D.R.G s i ∧ F (D.R.G s i).toNat = true := by
  simp only [anyTo, List.any_eq_true, List.mem_range, Bool.and_eq_true, decide_eq_true_eq]
/-- a rule is come to within n bytes -/
def LiveB (D : Dx) : Nat → Nat → Bool
  | 0, s => decide (0 ≤ D.A s)
  | n + 1, s => LiveB D n s || anyTo D (LiveB D n) s D.pn
/-- a rule is come to -/
def Live (D : Dx) (s : Nat) : Prop := ∃ n, LiveB D n s = true
theorem LiveB.up {D : Dx} {n s : Nat} (h : LiveB D n s = true) : LiveB D (n + 1) s = true := by rw [LiveB, h]; rfl
theorem LiveB.mono {D : Dx} {n m s : Nat} (h : LiveB D n s = true) (hm : n ≤ m) : LiveB D m s = true := by
  induction m with
  | zero => obtain rfl : n = 0 := by omega
            exact h
  | succ m ih =>
    by_cases e : n = m + 1
    · exact e ▸ h
    · exact LiveB.up (ih (by omega))
theorem Live.acc {D : Dx} {s : Nat} (h : 0 ≤ D.A s) : Live D s := ⟨0, by simpa [LiveB] using h⟩
theorem to_lt {D : Dx} (h : DOk D) {s k : Nat} (hs : s < D.rn) (hk : k < D.pn) (h0 : 0 ≤ D.R.G s k) : (D.R.G s k).toNat < D.rn := by
  have g := h.at hs
  have := g.2.1 k (by rw [g.1]; exact hk)
  omega
/-- F says of no state behind which F says so that it is not -/
def Closed (D : Dx) (F : Nat → Bool) (m : Nat) : Prop := ∀ s, s < m → F s = false → D.A s = -1 ∧ anyTo D F s D.pn = false
theorem Closed.all {D : Dx} (h : DOk D) {F : Nat → Bool} (hc : Closed D F D.rn) {s : Nat} (hs : s < D.rn) (hl : Live D s) : F s = true := by
  obtain ⟨n, hn⟩ := hl
  induction n generalizing s with
  | zero =>
    cases hF : F s
    · have := (hc s hs hF).1
      simp only [LiveB, decide_eq_true_eq] at hn
      omega
    · rfl
  | succ n ih =>
    rw [LiveB, Bool.or_eq_true] at hn
    rcases hn with hn | hn
    · exact ih hs hn
    · obtain ⟨k, hk, h0, h1⟩ := anyTo_iff.1 hn
      have h2 := ih (to_lt h hs hk h0) h1
      cases hF : F s
      · have h3 := (hc s hs hF).2
        rw [anyTo_iff.2 ⟨k, hk, h0, h2⟩] at h3
        cases h3
      · rfl
/-- F says from which of the states a rule is come to -/
def LivesF (D : Dx) (n : Nat) (F : Nat → Bool) : Prop := n = D.rn ∧ ∀ s, s < n → (F s = true ↔ Live D s)
theorem LivesF.unique {D : Dx} {n m : Nat} {F G : Nat → Bool} (h : LivesF D n F) (h' : LivesF D m G) : n = m ∧ ∀ s, s < n → F s = G s := by
  obtain ⟨rfl, h⟩ := h
  obtain ⟨rfl, h'⟩ := h'
  exact ⟨rfl, fun s hs => by rw [Bool.eq_iff_iff, h s hs, h' s hs]⟩
theorem LiveB.congr {D D' : Dx} (e : DEq D D') (h : DOk D) : ∀ n s, s < D.rn → LiveB D' n s = LiveB D n s
  | 0, s, hs => by rw [LiveB, LiveB, e.2.2.2 s (by rw [h.2.2.1]; exact hs)]
  | n + 1, s, hs => by
    have ih := LiveB.congr e h n
    have hR : ∀ i, i < D.pn → D'.R.G s i = D.R.G s i := fun i hi => ((e.2.1.2 s hs).2 i (by rw [(h.at hs).1]; exact hi)).symm
    rw [LiveB, LiveB, ih s hs]
    congr 1
    rw [Bool.eq_iff_iff, anyTo_iff, anyTo_iff, ← e.1.1]
    exact ⟨fun ⟨i, h1, h2, h3⟩ => ⟨i, h1, by rw [← hR i h1]; exact h2, by rw [hR i h1] at h2 h3; rw [← ih _ (to_lt h hs h1 h2)]; exact h3⟩, fun ⟨i, h1, h2, h3⟩ => ⟨i, h1, by rw [hR i h1]; exact h2, by rw [hR i h1, ih _ (to_lt h hs h1 h2)]; exact h3⟩⟩
theorem Live.congr {D D' : Dx} (e : DEq D D') (h : DOk D) {s : Nat} (hs : s < D.rn) : Live D' s ↔ Live D s := by
  unfold Live
  simp only [LiveB.congr e h _ s hs]
/-- what LeastLive tells -/
def LiveR (D : Dx) (n : Nat) (F : Nat → Bool) : Prop := (DOk D ∧ LivesF D n F) ∨ (¬ DOk D ∧ n = 0)
theorem LiveR.unique {D : Dx} {n m : Nat} {F G : Nat → Bool} (h : LiveR D n F) (h' : LiveR D m G) : n = m ∧ ∀ s, s < n → F s = G s := by
  rcases h with ⟨a, b⟩ | ⟨a, rfl⟩ <;> rcases h' with ⟨c, d⟩ | ⟨c, rfl⟩
  · exact b.unique d
  · exact absurd a c
  · exact absurd c a
  · exact ⟨rfl, fun s hs => absurd hs (Nat.not_lt_zero _)⟩
theorem LiveR.congr {D D' : Dx} (e : DEq D D') {n : Nat} {F : Nat → Bool} (h : LiveR D n F) : LiveR D' n F := by
  rcases h with ⟨a, b, c⟩ | ⟨a, b⟩
  · exact .inl ⟨a.congr e, by rw [b]; exact e.2.1.1, fun s hs => (c s hs).trans (Live.congr e a (by omega)).symm⟩
  · exact .inr ⟨fun h => a (h.congr e.symm), b⟩
end Go.Proofs.YtolddecfibdblaaDoor

