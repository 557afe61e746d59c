/- the walks of DfaNext, both sides -/
import Derived.Test.YtolddecfibdblaaDoorJq
namespace Go.Proofs.YtolddecfibdblaaDoor
open Go.RowKit
set_option linter.unusedVariables false
set_option linter.unusedSimpArgs false

/-- what DfaNext tells -/
def NextR (D : Dx) (s x : Int) (r : Int) : Prop := (DOk D ∧ 0 ≤ s ∧ s < D.rn ∧ NextOf D s.toNat x r) ∨ ((¬ DOk D ∨ s < 0 ∨ (D.rn : Int) ≤ s) ∧ r = -1)
theorem NextR.unique {D : Dx} {s x r r' : Int} (h : NextR D s x r) (h' : NextR D s x r') : r = r' := by
  rcases h with ⟨a, b, c, d⟩ | ⟨a, rfl⟩ <;> rcases h' with ⟨a', b', c', d'⟩ | ⟨a', rfl⟩
  · exact d.unique a d'
  · rcases a' with g | g | g
    · exact absurd a g
    · omega
    · omega
  · rcases a with g | g | g
    · exact absurd a' g
    · omega
    · omega
  · rfl
theorem NextR.congr {D D' : Dx} (e : DEq D D') {s x r : Int} (h : NextR D s x r) : NextR D' s x r := by
  have he := e.2.1.1
  rcases h with ⟨a, b, c, d⟩ | ⟨a, rfl⟩
  · exact .inl ⟨a.congr e, b, by omega, d.congr e (by omega) (a.at (by omega)).1⟩
  · refine .inr ⟨?_, rfl⟩
    rcases a with g | g | g
    · exact .inl (fun h => g (h.congr e.symm))
    · exact .inr (.inl g)
    · exact .inr (.inr (by omega))
theorem NextR.exists (D : Dx) (s x : Int) : ∃ r, NextR D s x r := by
  by_cases h : DOk D ∧ 0 ≤ s ∧ s < D.rn
  · by_cases g : ∃ k, k < D.pn ∧ hasB (D.P.n k) (D.P.L k) (D.P.H k) x = true
    · obtain ⟨k, h1, h2⟩ := g
      exact ⟨_, .inl ⟨h.1, h.2.1, h.2.2, .inl ⟨k, h1, h2, rfl⟩⟩⟩
    · refine ⟨-1, .inl ⟨h.1, h.2.1, h.2.2, .inr ⟨fun k hk => ?_, rfl⟩⟩⟩
      cases e : hasB (D.P.n k) (D.P.L k) (D.P.H k) x
      · rfl
      · exact absurd ⟨k, hk, e⟩ g
  · refine ⟨-1, .inr ⟨?_, rfl⟩⟩
    by_cases g : DOk D
    · by_cases g2 : s < 0
      · exact .inr (.inl g2)
      · refine .inr (.inr ?_)
        by_cases g3 : (D.rn : Int) ≤ s
        · exact g3
        · exact absurd ⟨g, by omega, by omega⟩ h
    · exact .inl g
/-- what is told says r of which P -/
def IsI (P : Int → Prop) (w : World) (e : Ending) (w' : World) : Prop := ∃ r : Int, e = .returned (.int .i64 r) ∧ P r ∧ Below w.heap.size w w'
theorem IsI.mk' {P : Int → Prop} {w w' : World} {r : Int} (h : P r) (hb : Below w.heap.size w w') : IsI P w (.returned (.int .i64 r)) w' := ⟨r, rfl, h, hb⟩

end Go.Proofs.YtolddecfibdblaaDoor

