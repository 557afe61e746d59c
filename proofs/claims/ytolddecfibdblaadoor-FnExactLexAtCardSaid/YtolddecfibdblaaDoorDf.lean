/- The walk of l1Set: some set is drawn. -/
import Derived.Test.YtolddecfibdblaaDoorDe
namespace Go.Proofs.YtolddecfibdblaaDoor
open Go.RowKit
set_option linter.unusedVariables false
set_option linter.unusedSimpArgs false

/-- a set of n spans lies in memory -/
def SetIn (B : Nat → Prop) (w : World) (v : Value) (n : Nat) (L H : Nat → Int) : Prop := ∃ (a : Option Addr) (b off cap : Nat), v = .slice a n cap ∧ (0 < n → a = some ⟨b, off, none⟩ ∧ B b) ∧ Sp w b off n L H
theorem SetIn.of_row {w w' : World} {base : Nat} {v : Value} {R : List (Nat × Nat)} (h : w'.ownsRow base 87 2 v R.length (cellsR R)) : ∃ L H, SetIn (fun k => base ≤ k ∧ Soft w' k) w' v R.length L H := by
  rcases h.2 with ⟨rfl, h0⟩ | ⟨g, cap, cur, rfl, h1, h2, h3, h4, h5, h6⟩
  · exact ⟨fun _ => 0, fun _ => 0, none, 0, 0, 0, by rw [h0], fun hh => by omega, fun i hi => by omega⟩
  · refine ⟨fun i => ((R[i]?).getD (0, 0)).1, fun i => ((R[i]?).getD (0, 0)).2, some ⟨g, 0, none⟩, g, 0, cap, rfl, fun _ => ⟨rfl, h1, cur, 87, h2⟩, fun i hi => ?_⟩
    have hc : ∀ (R : List (Nat × Nat)) (i : Nat), i < R.length → (cellsR R)[i * 2]? = some (.int .i64 ((((R[i]?).getD (0, 0)).1 : Nat) : Int)) ∧ (cellsR R)[i * 2 + 1]? = some (.int .i64 ((((R[i]?).getD (0, 0)).2 : Nat) : Int)) := by
      intro R
      induction R with
      | nil => intro i hi; simp at hi
      | cons x R ih =>
        intro i hi
        have e : cellsR (x :: R) = .int .i64 (x.1 : Int) :: .int .i64 (x.2 : Int) :: cellsR R := rfl
        cases i with
        | zero => rw [e]; exact ⟨rfl, rfl⟩
        | succ i =>
          have := ih i (by simpa using hi)
          rw [e, show (i + 1) * 2 = i * 2 + 2 by omega, show i * 2 + 2 + 1 = (i * 2 + 1) + 2 by omega]
          simpa using this
    have a1 := World.ownsRow.cellAt h (i * 2) (by omega)
    have a2 := World.ownsRow.cellAt h (i * 2 + 1) (by omega)
    rw [(hc R i hi).1] at a1
    rw [(hc R i hi).2] at a2
    exact ⟨by simpa using a1, by simpa using a2⟩

end Go.Proofs.YtolddecfibdblaaDoor

