/- the walks of toRex, toRexS -/
import Derived.Test.YtolddecfibdblaaDoorTa
namespace Go.Proofs.YtolddecfibdblaaDoor
open Go.RowKit
set_option linter.unusedVariables false
set_option linter.unusedSimpArgs false

/-- a block of plain cells -/
def Soft (w : World) (k : Nat) : Prop := ∃ cs t, w.heap[k]? = some (.cells cs t (0, 0))
theorem Soft.lt {w : World} {k : Nat} (h : Soft w k) : k < w.heap.size := by
  obtain ⟨cs, t, h⟩ := h
  rcases Nat.lt_or_ge k w.heap.size with h' | h'
  · exact h'
  · simp [Array.getElem?_eq_none h'] at h
theorem Soft.of_block {w w' : World} {k : Nat} (h : Soft w k) (e : w'.heap[k]? = w.heap[k]?) : Soft w' k := by
  obtain ⟨cs, t, h⟩ := h
  exact ⟨cs, t, e.trans h⟩
theorem Soft.below {w w' : World} {k : Nat} (h : Soft w k) (hb : Below w.heap.size w w') : Soft w' k := h.of_block (hb.block k h.lt)
/-- the cells of a row of Rex, by their place -/
def flat3 (K : Nat → Sh) (M : Nat → Mx) (j : Nat) : Value := if j % 3 = 0 then .int .i64 (K (j / 3)).kind else if j % 3 = 1 then (M (j / 3)).sv else (M (j / 3)).kv
theorem flat3_0 (K : Nat → Sh) (M : Nat → Mx) (i : Nat) : flat3 K M (i * 3) = .int .i64 (K i).kind := by
  unfold flat3; rw [if_pos (by omega), show i * 3 / 3 = i by omega]
theorem flat3_1 (K : Nat → Sh) (M : Nat → Mx) (i : Nat) : flat3 K M (i * 3 + 1) = (M i).sv := by
  unfold flat3; rw [if_neg (by omega), if_pos (by omega), show (i * 3 + 1) / 3 = i by omega]
theorem flat3_2 (K : Nat → Sh) (M : Nat → Mx) (i : Nat) : flat3 K M (i * 3 + 2) = (M i).kv := by
  unfold flat3; rw [if_neg (by omega), if_neg (by omega), show (i * 3 + 2) / 3 = i by omega]
theorem Kid.of_row {w : World} {b t n i : Nat} {K : Nat → Sh} {M : Nat → Mx} (h : w.rowIs b t (n * 3) (flat3 K M)) (hi : i < n) : Kid w b (0 + i * 3) (K i) (M i) := by
  have h0 := h.cell (i := i * 3) (by omega)
  have h1 := h.cell (i := i * 3 + 1) (by omega)
  have h2 := h.cell (i := i * 3 + 2) (by omega)
  rw [flat3_0] at h0
  rw [flat3_1] at h1
  rw [flat3_2] at h2
  exact ⟨by simpa using h0, by simpa using h1, by simpa using h2⟩

theorem Soft.set {w : World} {k : Nat} (h : Soft w k) (p : Addr) (u : Value) : Soft (w.setCell p u) k := by
  by_cases e : k = p.block
  · obtain ⟨cs, t, h⟩ := h
    subst e
    simp [Soft, World.setCell, Array.getElem?_modify, h]
  · exact h.of_block (Below.heap_setCell _ _ _ _ e)
end Go.Proofs.YtolddecfibdblaaDoor

