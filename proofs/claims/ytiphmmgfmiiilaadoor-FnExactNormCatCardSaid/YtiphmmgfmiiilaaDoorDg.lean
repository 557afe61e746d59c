/- The walks of l2Byte and l2Leaf. -/
import Derived.Test.YtiphmmgfmiiilaaDoorDf
namespace Go.Proofs.YtiphmmgfmiiilaaDoor
open Go.RowKit
set_option linter.unusedVariables false
set_option linter.unusedSimpArgs false

/-- the shape of one without kids -/
def leafS (k : Int) (n : Nat) (L H : Nat → Int) : Sh := .node k n L H 0 (fun i => absurd i.2 (Nat.not_lt_zero _))
theorem soft3 {w : World} {b : Nat} {S : Sh} {M : Mx} {c : Nat} (hc : b < c) (u0 u1 u2 : Value) (h : In (fun k => c ≤ k ∧ Soft w k) w S M) :
    In (fun k => b ≤ k ∧ Soft (((w.setCell ⟨b, 0, none⟩ u0).setCell ⟨b, 1, none⟩ u1).setCell ⟨b, 2, none⟩ u2) k) (((w.setCell ⟨b, 0, none⟩ u0).setCell ⟨b, 1, none⟩ u1).setCell ⟨b, 2, none⟩ u2) S M :=
  (h.keep (fun k hk _ => keep3 w b 0 1 2 u0 u1 u2 (by omega))).mono (fun k hk => ⟨by omega, hk.2.set3⟩)
/-- a box of the call's own that holds the answer -/
def Rb (w : World) (b : Nat) : Prop := ∃ x y z : Value, w.heap[b]? = some (.cells #[x, y, z] 30 (0, 0)) ∧ True
theorem Rb.cells {w : World} {b : Nat} (h : Rb w b) : (∃ x, w.cell? ⟨b, 0, none⟩ = some x) ∧ (∃ y, w.cell? ⟨b, 1, none⟩ = some y) ∧ (∃ z, w.cell? ⟨b, 2, none⟩ = some z) ∧ ∀ o, w.frozen? ⟨b, o, none⟩ = false := by
  obtain ⟨x, y, z, h, _⟩ := h
  exact ⟨⟨x, by simp [World.cell?, h]⟩, ⟨y, by simp [World.cell?, h]⟩, ⟨z, by simp [World.cell?, h]⟩, fun o => by simp [World.frozen?, h]⟩
theorem Rb.set3 {w : World} {b : Nat} (h : Rb w b) (u0 u1 u2 : Value) : (((w.setCell ⟨b, 0, none⟩ u0).setCell ⟨b, 1, none⟩ u1).setCell ⟨b, 2, none⟩ u2).heap[b]? = some (.cells #[u0, u1, u2] 30 (0, 0)) := by
  obtain ⟨x, y, z, h, _⟩ := h
  simp [World.setCell, Array.getElem?_modify, h]
theorem Rb.new (w : World) (x y z : Value) : Rb (w.alloc (.cells #[x, y, z] 30)) w.heap.size := ⟨x, y, z, by show (w.heap.push _)[w.heap.size]? = _; simp, trivial⟩
theorem Rb.of_block {w w' : World} {b : Nat} (h : Rb w b) (e : w'.heap[b]? = w.heap[b]?) : Rb w' b := by
  obtain ⟨x, y, z, h, _⟩ := h
  exact ⟨x, y, z, e.trans h, trivial⟩
theorem Rb.lt {w : World} {b : Nat} (h : Rb w b) : b < w.heap.size := by
  obtain ⟨⟨x, h⟩, _⟩ := h.cells
  exact World.block_lt_of_cell? _ _ h

end Go.Proofs.YtiphmmgfmiiilaaDoor

