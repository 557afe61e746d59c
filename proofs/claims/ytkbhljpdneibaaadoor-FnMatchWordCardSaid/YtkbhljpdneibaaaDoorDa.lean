/- The reader that draws: what it holds in memory; the walks of l15Open and pick. -/
import Derived.Test.YtkbhljpdneibaaaDoorTb
import Derived.Deep.LoopGhost
import Derived.Deep.Cut
import Derived.Deep.RegionHeld
import Derived.Maps.AppendAt
import Derived.Laws.BitsAllLaws
namespace Go.Proofs.YtkbhljpdneibaaaDoor
open Go.RowKit
set_option linter.unusedVariables false
set_option linter.unusedSimpArgs false

/-- a reader lies in block rb: it has got p bytes -/
def Rdr (w : World) (rb p : Nat) : Prop := ∃ (a : Option Addr) (n c bb off : Nat) (V : Nat → Nat), w.heap[rb]? = some (.cells #[.slice a n c, .int .i64 (p : Int)] 62 (0, 0)) ∧ n ≤ 2000 ∧ (0 < n → a = some ⟨bb, off, none⟩ ∧ bb < rb) ∧ ∀ i, i < n → V i ≤ 255 ∧ w.cell? ⟨bb, off + i, none⟩ = some (.int .u8 (V i : Int))
theorem Rdr.lt {w : World} {rb p : Nat} (h : Rdr w rb p) : rb < w.heap.size := by
  obtain ⟨_, _, _, _, _, _, h, _⟩ := h
  rcases Nat.lt_or_ge rb w.heap.size with h' | h'
  · exact h'
  · simp [Array.getElem?_eq_none h'] at h
theorem Rdr.keep {w w' : World} {rb p : Nat} (h : Rdr w rb p) (hk : ∀ k, k ≤ rb → w'.heap[k]? = w.heap[k]?) : Rdr w' rb p := by
  obtain ⟨a, n, c, bb, off, V, h1, h2, h3, h4⟩ := h
  refine ⟨a, n, c, bb, off, V, (hk rb (Nat.le_refl _)).trans h1, h2, h3, fun i hi => ⟨(h4 i hi).1, ?_⟩⟩
  exact (World.cell?_of_block (w := w) (a := ⟨bb, _, none⟩) (hk bb (Nat.le_of_lt (h3 (by omega)).2))).trans (h4 i hi).2
theorem Rdr.set {w : World} {rb p : Nat} (h : Rdr w rb p) {b : Nat} (hb : rb < b) (o : Nat) (v : Value) : Rdr (w.setCell ⟨b, o, none⟩ v) rb p := h.keep (fun k hk => Below.heap_setCell _ _ _ _ (by simp; omega))
theorem Rdr.below {w w' : World} {rb p : Nat} (h : Rdr w rb p) (hb : Below w.heap.size w w') : Rdr w' rb p := h.keep (fun k hk => hb.block k (Nat.lt_of_le_of_lt hk h.lt))

/-- what turns while something is drawn: the reader, and new memory -/
theorem grown_of_below {w w' : World} {row : Option Nat} (hb : Below w.heap.size w w') : w.grownBy w' row := ⟨hb.os, hb.tape, hb.output, hb.size, fun k hk _ => hb.block k hk⟩

theorem open_big (a : Option Addr) (n c bb off : Nat) (V : Nat → Nat) (w : World) (hn : n ≤ 1048576) (hc : n ≤ c) (hcc : c ≤ 9223372036854775807) (ha : 0 < n → a = some ⟨bb, off, none⟩ ∧ bb < w.heap.size) (hV : ∀ i, i < n → V i ≤ 255 ∧ w.cell? ⟨bb, off + i, none⟩ = some (.int .u8 (V i : Int))) :
    Calls Tryd.prog 21 #[.slice a n c] w fun e w' => e = .returned (.pointer (some ⟨w.heap.size, 0, none⟩)) ∧ Rdr w' w.heap.size 0 ∧ Below w.heap.size w w' := by
  have hB : ∀ o, Below w.heap.size w (w.alloc o) := fun o => (Below.refl _ _).alloc (Nat.le_refl _) _
  have hnew : ∀ o : Obj, (w.alloc o).heap[w.heap.size]? = some o := fun o => by show (w.heap.push o)[w.heap.size]? = some o; simp
  by_cases h : n ≤ 2000
  · have hz : ¬ ((2000 : Int) < (n : Int)) := by omega
    go_enter Tryd.func21, Tryd.ntmps21
    go_wp2
    go_ret
    refine ⟨rfl, ⟨a, n, c, bb, off, V, hnew _, h, ha, fun i hi => ⟨(hV i hi).1, ((hB _).cell (p := ⟨bb, _, none⟩) (ha (by omega)).2).trans (hV i hi).2⟩⟩, hB _⟩
  · have hz : (2000 : Int) < (n : Int) := by omega
    have hz2 : (2000 : Int) ≤ (c : Int) := by omega
    obtain ⟨rfl, hbb⟩ := ha (by omega)
    go_enter Tryd.func21, Tryd.ntmps21
    go_wp2
    go_ret
    refine ⟨rfl, ⟨some ⟨bb, off, none⟩, 2000, _, bb, off, V, hnew _, Nat.le_refl _, fun h0 => ⟨rfl, hbb⟩, fun i hi => ⟨(hV i (by omega)).1, ((hB _).cell (p := ⟨bb, _, none⟩) hbb).trans (hV i (by omega)).2⟩⟩, hB _⟩
end Go.Proofs.YtkbhljpdneibaaaDoor

