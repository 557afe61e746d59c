/- Spans of bytes told by two functions of the place; what a slice of spans holds in memory; no Go text is walked here. -/
import Derived.Test.YtplpdikkkbiacaaGreatDoorRows
import Derived.WalkKit
import Derived.WalkSpells
import Derived.WalkLawsBesides
import Derived.Deep.QuietTactic
import Derived.BigQuiet
import Derived.Deep.OwnRows
import Derived.Deep.Light
import Derived.Deep.RegionWith
import Derived.Deep.DeepFit
namespace Go.Proofs.YtplpdikkkbiacaaGreatDoor
open Go.RowKit
set_option linter.unusedVariables false
set_option linter.unusedSimpArgs false

/-- n spans lie in block b from off on, two cells each: span i goes from L i to H i -/
def Sp (w : World) (b off n : Nat) (L H : Nat → Int) : Prop :=
  ∀ i, i < n → w.cell? ⟨b, off + i * 2, none⟩ = some (.int .i64 (L i)) ∧ w.cell? ⟨b, off + i * 2 + 1, none⟩ = some (.int .i64 (H i))

/-- the cells of a row of spans, by their place -/
def flat (L H : Nat → Int) (j : Nat) : Value := .int .i64 (if j % 2 = 0 then L (j / 2) else H (j / 2))

theorem flat_even (L H : Nat → Int) (i : Nat) : flat L H (i * 2) = .int .i64 (L i) := by
  unfold flat; rw [if_pos (by omega), show i * 2 / 2 = i by omega]
theorem flat_odd (L H : Nat → Int) (i : Nat) : flat L H (i * 2 + 1) = .int .i64 (H i) := by
  unfold flat; rw [if_neg (by omega), show (i * 2 + 1) / 2 = i by omega]

theorem Sp.of_row {w : World} {b t n : Nat} {L H : Nat → Int} (h : w.rowIs b t (n * 2) (flat L H)) : Sp w b 0 n L H := by
  intro i hi
  have h1 := h.cell (i := i * 2) (by omega)
  have h2 := h.cell (i := i * 2 + 1) (by omega)
  rw [flat_even] at h1
  rw [flat_odd] at h2
  exact ⟨by simpa using h1, by simpa using h2⟩

theorem Sp.below {w w' : World} {b off n : Nat} {L H : Nat → Int} (h : Sp w b off n L H) (hb : Below w.heap.size w w') : Sp w' b off n L H := by
  intro i hi
  obtain ⟨h1, h2⟩ := h i hi
  exact ⟨(hb.cell (p := ⟨b, _, none⟩) (World.block_lt_of_cell? _ _ h1)).trans h1, (hb.cell (p := ⟨b, _, none⟩) (World.block_lt_of_cell? _ _ h2)).trans h2⟩

theorem row_below {w w' : World} {b t n : Nat} {f : Nat → Value} (h : w.rowIs b t n f) (hb : Below w.heap.size w w') : w'.rowIs b t n f := h.of_block (hb.block _ h.lt)

theorem row_step {w : World} {g n k : Nat} {L H : Nat → Int} {z : Nat → Value} (h : w.rowIs g 76 (n * 2) (fun j => if j < k * 2 then flat L H j else z j)) :
    ((w.setCell ⟨g, k * 2, none⟩ (.int .i64 (L k))).setCell ⟨g, k * 2 + 1, none⟩ (.int .i64 (H k))).rowIs g 76 (n * 2) (fun j => if j < (k + 1) * 2 then flat L H j else z j) := by
  refine ((h.set (k * 2) _).set (k * 2 + 1) _).congr (fun j _ => ?_)
  by_cases e1 : j = k * 2 + 1
  · subst e1
    rw [if_pos rfl, if_pos (by omega), flat_odd]
  · rw [if_neg e1]
    by_cases e2 : j = k * 2
    · subst e2
      rw [if_pos rfl, if_pos (by omega), flat_even]
    · rw [if_neg e2]
      by_cases e3 : j < k * 2
      · rw [if_pos e3, if_pos (by omega)]
      · rw [if_neg e3, if_neg (by omega)]

theorem ret_bool {a b : Bool} (h : a = b) : Ending.returned (.bool a) = .returned (.bool b) := by rw [h]
theorem ret_int {k : IntKind} {a b : Int} (h : a = b) : Ending.returned (.int k a) = .returned (.int k b) := by rw [h]

/-- the same spans in the same order -/
def eqB (n : Nat) (L H : Nat → Int) (m : Nat) (L' H' : Nat → Int) : Bool := n == m && (List.range n).all fun i => L i == L' i && H i == H' i

theorem eqB_len {n m : Nat} {L H L' H' : Nat → Int} (h : n ≠ m) : eqB n L H m L' H' = false := by simp [eqB, h]
theorem eqB_all {n : Nat} {L H L' H' : Nat → Int} (h : ∀ i, i < n → L i = L' i ∧ H i = H' i) : eqB n L H n L' H' = true := by
  simp only [eqB, beq_self_eq_true, Bool.true_and, List.all_eq_true, List.mem_range, Bool.and_eq_true, beq_iff_eq]
  exact h
theorem eqB_at {n k : Nat} {L H L' H' : Nat → Int} (hk : k < n) (h : (L k == L' k && H k == H' k) = false) : eqB n L H n L' H' = false := by
  rw [← Bool.not_eq_true]
  intro e
  simp only [eqB, beq_self_eq_true, Bool.true_and, List.all_eq_true, List.mem_range] at e
  rw [e k hk] at h
  cases h

theorem eqB_at' {n k : Nat} {L H L' H' : Nat → Int} (hk : k < n) (h : (!L k == L' k) = true ∨ (!H k == H' k) = true) : eqB n L H n L' H' = false :=
  eqB_at hk (by simp at h ⊢; omega)
theorem eq_step {k : Nat} {L H L' H' : Nat → Int} (hall : ∀ j, j < k → L j = L' j ∧ H j = H' j) (h : (!L k == L' k) = false ∧ (!H k == H' k) = false) :
    ∀ j, j < k + 1 → L j = L' j ∧ H j = H' j := by
  intro j hj
  by_cases e : j = k
  · subst e; simpa using h
  · exact hall j (by omega)

/-- span k is as it must be, those ahead of it being so -/
def OkAt (L H : Nat → Int) (k : Nat) : Prop := 0 ≤ L k ∧ H k ≤ 255 ∧ L k ≤ H k ∧ (0 < k → H (k - 1) + 1 < L k)
/-- the spans are a set -/
def okB (n : Nat) (L H : Nat → Int) : Bool := (List.range n).all fun k => decide (0 ≤ L k ∧ H k ≤ 255 ∧ L k ≤ H k ∧ (0 < k → H (k - 1) + 1 < L k))

theorem okB_iff {n : Nat} {L H : Nat → Int} : okB n L H = true ↔ ∀ k, k < n → OkAt L H k := by
  simp only [okB, OkAt, List.all_eq_true, List.mem_range, decide_eq_true_eq]
theorem okB_true {n : Nat} {L H : Nat → Int} (h : ∀ k, k < n → OkAt L H k) : okB n L H = true := okB_iff.2 h
theorem okB_false {n k : Nat} {L H : Nat → Int} (hk : k < n) (h : ¬ OkAt L H k) : okB n L H = false := by
  rw [← Bool.not_eq_true]
  exact fun e => h (okB_iff.1 e k hk)
theorem ok_step {k : Nat} {L H : Nat → Int} (hall : ∀ j, j < k → OkAt L H j) (h : OkAt L H k) : ∀ j, j < k + 1 → OkAt L H j := by
  intro j hj
  by_cases e : j = k
  · subst e; exact h
  · exact hall j (by omega)
/-- the least Lo that may follow k spans -/
def leastAt (H : Nat → Int) (k : Nat) : Int := if k = 0 then 0 else H (k - 1) + 2
theorem leastAt_bd {L H : Nat → Int} {k : Nat} (hall : ∀ j, j < k → OkAt L H j) : 0 ≤ leastAt H k ∧ leastAt H k ≤ 257 := by
  unfold leastAt
  by_cases e : k = 0
  · rw [if_pos e]; omega
  · rw [if_neg e]
    have := hall (k - 1) (by omega)
    unfold OkAt at this
    omega
theorem leastAt_succ (H : Nat → Int) (k : Nat) : leastAt H (k + 1) = H k + 2 := by simp [leastAt]
theorem okAt_least {L H : Nat → Int} {k : Nat} (hall : ∀ j, j < k → OkAt L H j) : OkAt L H k ↔ leastAt H k ≤ L k ∧ L k ≤ H k ∧ H k ≤ 255 := by
  have hb := leastAt_bd hall
  unfold leastAt at *
  unfold OkAt
  by_cases e : k = 0
  · rw [if_pos e] at *; omega
  · rw [if_neg e] at *; omega

end Go.Proofs.YtplpdikkkbiacaaGreatDoor

