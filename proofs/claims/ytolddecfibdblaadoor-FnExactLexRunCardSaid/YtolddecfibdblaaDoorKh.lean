/- the walks of l8Live and LeastLive of the model -/
import Derived.Test.YtolddecfibdblaaDoorKa
import Derived.Test.YtolddecfibdblaaDoorJq
import Derived.Test.YtolddecfibdblaaDoorJn
import Derived.Deep.RegionHeld
import Derived.Test.YtolddecfibdblaaDoorKg
namespace Go.Proofs.YtolddecfibdblaaDoor
open Go.RowKit
set_option linter.unusedVariables false
set_option linter.unusedSimpArgs false

theorem bk_has {D : Dx} (h : DOk D) {k : Nat} (hk : k < D.pn) : Sb D.P k (bk D k) = true := by
  obtain ⟨r, hr⟩ := first_exists (Sb D.P k)
  have h0 := hr.pos (h.1.1 k hk).ne
  have e := bk_eq hr h0
  rcases hr with ⟨g, _⟩ | ⟨x, h1, h2, h3, _⟩
  · omega
  · have : x = bk D k := by omega
    rw [← this]; exact h3
theorem NextOf.bk {D : Dx} (h : DOk D) {s k : Nat} (hk : k < D.pn) {r : Int} (hr : NextOf D s (bk D k : Int) r) : r = D.R.G s k := by
  have hb := bk_has h hk
  exact hr.unique h (.inl ⟨k, hk, hb, rfl⟩)

end Go.Proofs.YtolddecfibdblaaDoor
namespace Go.Proofs.YtolddecfibdblaaDoor
open Go.RowKit
set_option linter.unusedVariables false
set_option linter.unusedSimpArgs false

/-- F, and x at k -/
def setB (F : Nat → Bool) (k : Nat) (x : Bool) (j : Nat) : Bool := if j = k then x else F j
/-- a new list of which P -/
def NewB (P : Nat → (Nat → Bool) → Prop) (w : World) (e : Ending) (w' : World) : Prop := ∃ (a : Option Addr) (b n c : Nat) (F : Nat → Bool), e = .returned (.slice a n c) ∧ (0 < n → a = some ⟨b, 0, none⟩ ∧ w.heap.size ≤ b ∧ w'.rowIs b 4 n (fun j => .bool (F j))) ∧ P n F ∧ Below w.heap.size w w'
theorem NewB.mk' {P : Nat → (Nat → Bool) → Prop} {w w' : World} {a : Option Addr} {b n c : Nat} {F : Nat → Bool} (h : 0 < n → a = some ⟨b, 0, none⟩ ∧ w.heap.size ≤ b ∧ w'.rowIs b 4 n (fun j => .bool (F j))) (hp : P n F) (hb : Below w.heap.size w w') : NewB P w (.returned (.slice a n c)) w' := ⟨a, b, n, c, F, rfl, h, hp, hb⟩

/-- what is known when state s is come to in round j, k parts of it being looked at -/
structure Pass (D : Dx) (j s k : Nat) (F : Nat → Bool) : Prop where
  sound : ∀ t, t < D.rn → F t = true → Live D t
  old : ∀ t i, t < D.rn → i < j → LiveB D i t = true → F t = true
  now : ∀ t, t < s → t < D.rn → LiveB D j t = true → F t = true
  acc : 0 < k → 0 ≤ D.A s → F s = true
  part : ∀ q, q + 1 < k → 0 ≤ D.R.G s q → (∃ i, i < j ∧ LiveB D i (D.R.G s q).toNat = true) → F s = true
theorem Pass.set {D : Dx} {j s k : Nat} {F : Nat → Bool} (h : Pass D j s k F) (hs : s < D.rn) {x : Bool} (hx : F s = true → x = true) (hl : x = true → Live D s) : Pass D j s k (setB F s x) := by
  have up : ∀ t, F t = true → setB F s x t = true := fun t ht => by
    unfold setB
    by_cases e : t = s
    · subst e; rw [if_pos rfl]; exact hx ht
    · rw [if_neg e]; exact ht
  refine ⟨fun t ht hF => ?_, fun t i ht hi hl => up t (h.old t i ht hi hl), fun t ht ht' hl => up t (h.now t ht ht' hl), fun h0 ha => up s (h.acc h0 ha), fun q hq h0 he => up s (h.part q hq h0 he)⟩
  unfold setB at hF
  by_cases e : t = s
  · subst e; rw [if_pos rfl] at hF; exact hl hF
  · rw [if_neg e] at hF; exact h.sound t ht hF
/-- the acc is looked at -/
theorem Pass.first {D : Dx} {j s : Nat} {F : Nat → Bool} (h : Pass D j s 0 F) (hs : s < D.rn) : Pass D j s 1 (setB F s (F s || decide (0 ≤ D.A s))) := by
  have h1 := h.set hs (x := F s || decide (0 ≤ D.A s)) (fun e => by rw [e]; rfl) (fun e => by
    rw [Bool.or_eq_true, decide_eq_true_eq] at e
    rcases e with e | e
    · exact h.sound s hs e
    · exact Live.acc e)
  refine ⟨h1.sound, h1.old, h1.now, fun _ ha => ?_, fun q hq => by omega⟩
  unfold setB
  rw [if_pos rfl, Bool.or_eq_true, decide_eq_true_eq]
  exact .inr ha
theorem Pass.done {D : Dx} {j s : Nat} {F : Nat → Bool} (h : Pass D j s (D.pn + 1) F) (hs : s < D.rn) : Pass D j (s + 1) 0 F := by
  refine ⟨h.sound, h.old, fun t ht ht' hl => ?_, fun h0 => absurd h0 (Nat.lt_irrefl _), fun q hq => by omega⟩
  by_cases e : t = s
  · subst e
    cases j with
    | zero =>
      simp only [LiveB, decide_eq_true_eq] at hl
      exact h.acc (by omega) hl
    | succ j =>
      rw [LiveB, Bool.or_eq_true] at hl
      rcases hl with hl | hl
      · exact h.old t j ht' (by omega) hl
      · obtain ⟨q, hq, h0, h1⟩ := anyTo_iff.1 hl
        exact h.part q (by omega) h0 ⟨j, by omega, h1⟩
  · exact h.now t (by omega) ht' hl
theorem Pass.round {D : Dx} {j : Nat} {F : Nat → Bool} (h : Pass D j D.rn 0 F) : Pass D (j + 1) 0 0 F :=
  ⟨h.sound, fun t i ht hi hl => (by
    by_cases e : i = j
    · subst e; exact h.now t ht ht hl
    · exact h.old t i ht (by omega) hl), fun t ht => (by omega), fun h0 => absurd h0 (Nat.lt_irrefl _), fun q hq => (by omega)⟩
end Go.Proofs.YtolddecfibdblaaDoor

