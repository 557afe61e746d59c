/- The walk of the law FnMatchCat. -/
import Derived.Test.YtkbhljpdneibaaaDoorLh
import Derived.Deep.CutRange
namespace Go.Proofs.YtkbhljpdneibaaaDoor
open Go.RowKit
set_option linter.unusedVariables false
set_option linter.unusedSimpArgs false

theorem al_at (w : World) (o : Obj) : (w.alloc o).heap[w.heap.size]? = some o := by show (w.heap.push _)[w.heap.size]? = _; simp
theorem al_old (w : World) (o : Obj) {k : Nat} {x : Obj} (h : w.heap[k]? = some x) : (w.alloc o).heap[k]? = some x := by
  refine ((below_new w o).block k ?_).trans h
  rcases Nat.lt_or_ge k w.heap.size with h' | h'
  · exact h'
  · exact absurd h (by simp [Array.getElem?_eq_none h'])
theorem bl_al {w V : World} (h : Below w.heap.size w V) (o : Obj) : Below w.heap.size w (V.alloc o) := h.alloc h.size o
/-- a slice of bytes that came in lies there still -/
theorem bytes_below {n bb off : Nat} {V : Nat → Nat} {w w' : World} {a : Option Addr} (ha : 0 < n → a = some ⟨bb, off, none⟩ ∧ bb < w.heap.size) (hV : ∀ i, i < n → V i ≤ 255 ∧ w.cell? ⟨bb, off + i, none⟩ = some (.int .u8 (V i : Int))) (hb : Below w.heap.size w w') :
    (0 < n → a = some ⟨bb, off, none⟩ ∧ bb < w'.heap.size) ∧ ∀ i, i < n → V i ≤ 255 ∧ w'.cell? ⟨bb, off + i, none⟩ = some (.int .u8 (V i : Int)) :=
  ⟨fun h => ⟨(ha h).1, Nat.lt_of_lt_of_le (ha h).2 hb.size⟩, fun i hi => ⟨(hV i hi).1, (hb.cell (p := ⟨bb, off + i, none⟩) (ha (by omega)).2).trans (hV i hi).2⟩⟩

end Go.Proofs.YtkbhljpdneibaaaDoor

