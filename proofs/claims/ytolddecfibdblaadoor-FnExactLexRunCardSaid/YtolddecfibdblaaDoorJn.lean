/- what DfaOk asks hangs on the data alone; the walk of the law of DfaOk -/
import Derived.Test.YtolddecfibdblaaDoorJe
import Derived.Deep.Cut
import Derived.Test.YtolddecfibdblaaDoorJm
namespace Go.Proofs.YtolddecfibdblaaDoor
open Go.RowKit
set_option linter.unusedVariables false
set_option linter.unusedSimpArgs false

/-- the machine's three lists lie in a box -/
def Bx (w : World) (b : Nat) (D : Dx) : Prop := w.cell? ⟨b, 0, none⟩ = some (.slice D.pa D.pn D.pc) ∧ w.cell? ⟨b, 1, none⟩ = some (.slice D.ra D.rn D.rc) ∧ w.cell? ⟨b, 2, none⟩ = some (.slice D.aa D.an D.ac)
theorem Bx.below {w w' : World} {b : Nat} {D : Dx} (h : Bx w b D) (hb : Below w.heap.size w w') : Bx w' b D :=
  ⟨(hb.cell (p := ⟨_, _, none⟩) (World.block_lt_of_cell? _ _ h.1)).trans h.1, (hb.cell (p := ⟨_, _, none⟩) (World.block_lt_of_cell? _ _ h.2.1)).trans h.2.1, (hb.cell (p := ⟨_, _, none⟩) (World.block_lt_of_cell? _ _ h.2.2)).trans h.2.2⟩

end Go.Proofs.YtolddecfibdblaaDoor
namespace Go.Proofs.YtolddecfibdblaaDoor
open Go.RowKit
set_option linter.unusedVariables false
set_option linter.unusedSimpArgs false

theorem hs_eq {n n' : Nat} {L H L' H' : Nat → Int} (e : n = n') (h : ∀ j, j < n → L j = L' j ∧ H j = H' j) : hs n L H = hs n' L' H' := by
  subst e
  funext x
  rw [hs, hs, Bool.eq_iff_iff, hasB_iff, hasB_iff]
  exact ⟨fun ⟨i, h1, h2⟩ => ⟨i, h1, by rw [← (h i h1).1, ← (h i h1).2]; exact h2⟩, fun ⟨i, h1, h2⟩ => ⟨i, h1, by rw [(h i h1).1, (h i h1).2]; exact h2⟩⟩
theorem okB_eq {n n' : Nat} {L H L' H' : Nat → Int} (e : n = n') (h : ∀ j, j < n → L j = L' j ∧ H j = H' j) : okB n L H = okB n' L' H' := by
  subst e
  rw [Bool.eq_iff_iff, okB_iff, okB_iff]
  have key : ∀ (L H L' H' : Nat → Int), (∀ j, j < n → L j = L' j ∧ H j = H' j) → (∀ k, k < n → OkAt L H k) → ∀ k, k < n → OkAt L' H' k := by
    intro L H L' H' h g k hk
    have := g k hk
    unfold OkAt at *
    rw [← (h k hk).1, ← (h k hk).2]
    refine ⟨this.1, this.2.1, this.2.2.1, fun h0 => ?_⟩
    rw [← (h (k - 1) (by omega)).2]
    exact this.2.2.2 h0
  exact ⟨key L H L' H' h, key L' H' L H fun j hj => ⟨(h j hj).1.symm, (h j hj).2.symm⟩⟩
theorem PartsGood.congr {n m : Nat} {N N' : Nest} (e : PEq n N m N') (h : PartsGood n N) : PartsGood m N' := by
  obtain ⟨rfl, e⟩ := e
  have hS : ∀ i, i < n → Sb N' i = Sb N i := fun i hi => (hs_eq (e i hi).1 (e i hi).2).symm
  have hO : ∀ i, i < n → okB (N'.n i) (N'.L i) (N'.H i) = okB (N.n i) (N.L i) (N.H i) := fun i hi => (okB_eq (e i hi).1 (e i hi).2).symm
  have hU : ∀ k, k ≤ n → uni N' k = uni N k := by
    intro k hk
    induction k with
    | zero => rfl
    | succ k ih =>
      funext x
      simp only [uni]
      rw [ih (by omega), hS k (by omega)]
  refine ⟨fun i hi => ?_, fun x hx => by rw [hU n (Nat.le_refl _)]; exact h.2 x hx⟩
  have g := h.1 i hi
  refine ⟨by rw [hO i hi]; exact g.ok, by rw [hS i hi]; exact g.ne, fun h0 => ?_, fun j hj => ?_⟩
  · rw [hS i hi, hS (i - 1) (by omega)]; exact g.ord h0
  · rw [hS i hi, hS j (by omega)]; exact g.dis j hj
theorem DOk.congr {D D' : Dx} (e : DEq D D') (h : DOk D) : DOk D' := by
  obtain ⟨e1, ⟨e2, f2⟩, ⟨e3, f3⟩⟩ := e
  obtain ⟨h1, ⟨h2, h3, h4⟩, ⟨h5, h6⟩⟩ := h
  refine ⟨h1.congr e1, ⟨by omega, by omega, fun s hs => ?_⟩, ⟨by omega, fun s hs => ?_⟩⟩
  · obtain ⟨g1, g2⟩ := h4 s (by omega)
    obtain ⟨k1, k2⟩ := f2 s (by omega)
    refine ⟨by rw [← k1, ← e1.1]; exact g1, fun j hj => ?_⟩
    have := g2 j (by omega)
    rw [k2 j (by omega)] at this
    rw [← e2]
    exact this
  · rw [← f3 s (by omega)]
    exact h6 s (by omega)
end Go.Proofs.YtolddecfibdblaaDoor

