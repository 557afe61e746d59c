/- Spans of bytes told by two functions of the place; what a slice of spans holds in memory; no Go text is walked here. -/
import Derived.Test.YtndjblfenijjbaaDoorRows
import Derived.WalkKit
import Derived.WalkSpells
import Derived.WalkLawsBesides
import Derived.Deep.QuietTactic
import Derived.BigQuiet
import Derived.Deep.OwnRows
import Derived.Deep.Light
import Derived.Deep.RegionWith
import Derived.Deep.DeepFit
namespace Go.Proofs.YtndjblfenijjbaaDoor
open Go.RowKit
set_option linter.unusedVariables false
set_option linter.unusedSimpArgs false

/-- n spans lie in block b from off on, two cells each: span i goes from L i to H i -/
def Sp (w : World) (b off n : Nat) (L H : Nat → Int) : Prop :=
  ∀ i, i < n → w.cell? ⟨b, off + i * 2, none⟩ = some (.int .i64 (L i)) ∧ w.cell? ⟨b, off + i * 2 + 1, none⟩ = some (.int .i64 (H i))

/-- the cells of a row of spans, by their place -/
def flat (L H : Nat → Int) (j : Nat) : Value := .int .i64 (if j % 2 = 0 then L (j / 2) else H (j / 2))

theorem flat_even (L H : Nat → Int) (i : Nat) : flat L H (i * 2) = .int .i64 (L i) := by
  unfold flat; rw [if_pos (by omega), show i * 2 / 2 = i by omega]
theorem flat_odd (L H : Nat → Int) (i : Nat) : flat L H (i * 2 + 1) = .int .i64 (H i) := by
  unfold flat; rw [if_neg (by omega), show (i * 2 + 1) / 2 = i by omega]

theorem Sp.of_row {w : World} {b t n : Nat} {L H : Nat → Int} (h : w.rowIs b t (n * 2) (flat L H)) : Sp w b 0 n L H := by
  intro i hi
  have h1 := h.cell (i := i * 2) (by omega)
  have h2 := h.cell (i := i * 2 + 1) (by omega)
  rw [flat_even] at h1
  rw [flat_odd] at h2
  exact ⟨by simpa using h1, by simpa using h2⟩

theorem Sp.below {w w' : World} {b off n : Nat} {L H : Nat → Int} (h : Sp w b off n L H) (hb : Below w.heap.size w w') : Sp w' b off n L H := by
  intro i hi
  obtain ⟨h1, h2⟩ := h i hi
  exact ⟨(hb.cell (p := ⟨b, _, none⟩) (World.block_lt_of_cell? _ _ h1)).trans h1, (hb.cell (p := ⟨b, _, none⟩) (World.block_lt_of_cell? _ _ h2)).trans h2⟩

theorem row_below {w w' : World} {b t n : Nat} {f : Nat → Value} (h : w.rowIs b t n f) (hb : Below w.heap.size w w') : w'.rowIs b t n f := h.of_block (hb.block _ h.lt)

theorem ret_bool {a b : Bool} (h : a = b) : Ending.returned (.bool a) = .returned (.bool b) := by rw [h]
end Go.Proofs.YtndjblfenijjbaaDoor

