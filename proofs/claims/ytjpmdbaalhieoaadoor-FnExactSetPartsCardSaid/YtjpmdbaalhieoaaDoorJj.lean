/- the walk of the project's partsOk -/
import Derived.Test.YtjpmdbaalhieoaaDoorJi
import Derived.Test.YtjpmdbaalhieoaaDoorJf
import Derived.Deep.CutRange
import Derived.Deep.RegionHeld
import Derived.Deep.RegionLaw
import Derived.Test.YtjpmdbaalhieoaaDoorDk
namespace Go.Proofs.YtjpmdbaalhieoaaDoor
open Go.RowKit
set_option linter.unusedVariables false
set_option linter.unusedSimpArgs false

/-- the first byte of the last of the first k, or -1 -/
def LastR (N : Nest) (k : Nat) (r : Int) : Prop := (k = 0 ∧ r = -1) ∨ (0 < k ∧ FirstB (Sb N (k - 1)) r)
theorem LastR.bd {N : Nest} {k : Nat} {r : Int} (h : LastR N k r) : -1 ≤ r ∧ r < 256 := by
  rcases h with ⟨_, rfl⟩ | ⟨_, h⟩
  · omega
  · exact h.bd
/-- the three boxes: no bytes, the bytes met, the bytes of this one -/
structure Bst (w : World) (s : Nat) (B m : Nat → Bool) (V : World) : Prop where
  none : V.rowIs w.heap.size 40 4 (wc (fun _ => false))
  met : V.rowIs (w.heap.size + 1) 40 4 (wc m)
  this : V.rowIs s 40 4 (wc B)
  tab : TabZ V
  bel : Below w.heap.size w V
  lt : w.heap.size + 1 < s
  old : 0 < w.heap.size
theorem Bst.below {w : World} {s : Nat} {B m : Nat → Bool} {V V' : World} (h : Bst w s B m V) (hb : Below V.heap.size V V') : Bst w s B m V' :=
  ⟨row_below h.none hb, row_below h.met hb, row_below h.this hb, h.tab.below hb, h.bel.trans (hb.mono h.bel.size), h.lt, h.old⟩
theorem Bst.store {w : World} {s : Nat} {B m m' : Nat → Bool} {V : World} (h : Bst w s B m V) :
    Bst w s B m' ((((V.setCell ⟨w.heap.size + 1, 0, .none⟩ (wc m' 0)).setCell ⟨w.heap.size + 1, 1, .none⟩ (wc m' 1)).setCell ⟨w.heap.size + 1, 2, .none⟩ (wc m' 2)).setCell ⟨w.heap.size + 1, 3, .none⟩ (wc m' 3)) := by
  have hl := h.lt
  have ho := h.old
  have hk : ∀ x, x ≠ w.heap.size + 1 → ((((V.setCell ⟨w.heap.size + 1, 0, .none⟩ (wc m' 0)).setCell ⟨w.heap.size + 1, 1, .none⟩ (wc m' 1)).setCell ⟨w.heap.size + 1, 2, .none⟩ (wc m' 2)).setCell ⟨w.heap.size + 1, 3, .none⟩ (wc m' 3)).heap[x]? = V.heap[x]? := fun x hx => by
    rw [Below.heap_setCell _ _ _ _ (by simpa using hx), Below.heap_setCell _ _ _ _ (by simpa using hx), Below.heap_setCell _ _ _ _ (by simpa using hx), Below.heap_setCell _ _ _ _ (by simpa using hx)]
  refine ⟨h.none.of_block (hk _ (by omega)), ?_, h.this.of_block (hk _ (by omega)), fun i hi => ?_, (((h.bel.setCell (by simp) _).setCell (by simp) _).setCell (by simp) _).setCell (by simp) _, hl, ho⟩
  · refine ((((h.met.set 0 _).set 1 _).set 2 _).set 3 _).congr (fun i hi => ?_)
    match i, hi with
    | 0, _ => simp
    | 1, _ => simp
    | 2, _ => simp
    | 3, _ => simp
  · rw [World.cell?_of_block (w := V) (a := ⟨0, i, .none⟩) (hk 0 (by omega))]
    exact h.tab i hi
theorem Bst.cells {w : World} {s : Nat} {B m : Nat → Bool} {V : World} (h : Bst w s B m V) :
    (V.cell? ⟨s, 0, .none⟩ = some (.int .u64 ((W B 0 : Nat) : Int)) ∧ V.cell? ⟨s, 1, .none⟩ = some (.int .u64 ((W B 1 : Nat) : Int)) ∧ V.cell? ⟨s, 2, .none⟩ = some (.int .u64 ((W B 2 : Nat) : Int)) ∧ V.cell? ⟨s, 3, .none⟩ = some (.int .u64 ((W B 3 : Nat) : Int))) ∧
    (V.cell? ⟨w.heap.size + 1, 0, .none⟩ = some (.int .u64 ((W m 0 : Nat) : Int)) ∧ V.cell? ⟨w.heap.size + 1, 1, .none⟩ = some (.int .u64 ((W m 1 : Nat) : Int)) ∧ V.cell? ⟨w.heap.size + 1, 2, .none⟩ = some (.int .u64 ((W m 2 : Nat) : Int)) ∧ V.cell? ⟨w.heap.size + 1, 3, .none⟩ = some (.int .u64 ((W m 3 : Nat) : Int))) ∧
    (V.frozen? ⟨w.heap.size + 1, 0, .none⟩ = false ∧ V.frozen? ⟨w.heap.size + 1, 1, .none⟩ = false ∧ V.frozen? ⟨w.heap.size + 1, 2, .none⟩ = false ∧ V.frozen? ⟨w.heap.size + 1, 3, .none⟩ = false) :=
  ⟨⟨h.this.cell (by omega), h.this.cell (by omega), h.this.cell (by omega), h.this.cell (by omega)⟩, ⟨h.met.cell (by omega), h.met.cell (by omega), h.met.cell (by omega), h.met.cell (by omega)⟩, ⟨h.met.frozen 0, h.met.frozen 1, h.met.frozen 2, h.met.frozen 3⟩⟩
end Go.Proofs.YtjpmdbaalhieoaaDoor

