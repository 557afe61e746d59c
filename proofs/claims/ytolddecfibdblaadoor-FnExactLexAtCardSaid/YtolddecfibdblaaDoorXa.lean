/- tokens of three numbers told by a function of the place; what a slice of tokens holds in memory -/
import Derived.Test.YtolddecfibdblaaDoorBase
import Derived.OwnWalk
namespace Go.Proofs.YtolddecfibdblaaDoor
open Go.RowKit
set_option linter.unusedVariables false
set_option linter.unusedSimpArgs false

/-- a token: its rule, from where, to where -/
structure Tk where
  r : Int
  f : Int
  t : Int
theorem Tk.ext' {a b : Tk} (h1 : a.r = b.r) (h2 : a.f = b.f) (h3 : a.t = b.t) : a = b := by cases a; cases b; simp_all
/-- n tokens lie in block b from off on -/
def TkIn (w : World) (b off n : Nat) (K : Nat → Tk) : Prop :=
  ∀ i, i < n → w.cell? ⟨b, off + i * 3, none⟩ = some (.int .i64 (K i).r) ∧ w.cell? ⟨b, off + i * 3 + 1, none⟩ = some (.int .i64 (K i).f) ∧ w.cell? ⟨b, off + i * 3 + 2, none⟩ = some (.int .i64 (K i).t)
/-- the cells of a row of tokens, by their place -/
def tkFl (K : Nat → Tk) (j : Nat) : Value := .int .i64 (if j % 3 = 0 then (K (j / 3)).r else if j % 3 = 1 then (K (j / 3)).f else (K (j / 3)).t)
theorem tkFl_0 (K : Nat → Tk) (i : Nat) : tkFl K (i * 3) = .int .i64 (K i).r := by
  unfold tkFl; rw [if_pos (by omega), show i * 3 / 3 = i by omega]
theorem tkFl_1 (K : Nat → Tk) (i : Nat) : tkFl K (i * 3 + 1) = .int .i64 (K i).f := by
  unfold tkFl; rw [if_neg (by omega), if_pos (by omega), show (i * 3 + 1) / 3 = i by omega]
theorem tkFl_2 (K : Nat → Tk) (i : Nat) : tkFl K (i * 3 + 2) = .int .i64 (K i).t := by
  unfold tkFl; rw [if_neg (by omega), if_neg (by omega), show (i * 3 + 2) / 3 = i by omega]
theorem TkIn.of_row {w : World} {b t n : Nat} {K : Nat → Tk} (h : w.rowIs b t (n * 3) (tkFl K)) : TkIn w b 0 n K := by
  intro i hi
  have h1 := h.cell (i := i * 3) (by omega)
  have h2 := h.cell (i := i * 3 + 1) (by omega)
  have h3 := h.cell (i := i * 3 + 2) (by omega)
  rw [tkFl_0] at h1
  rw [tkFl_1] at h2
  rw [tkFl_2] at h3
  exact ⟨by simpa using h1, by simpa using h2, by simpa using h3⟩
theorem TkIn.below {w w' : World} {b off n : Nat} {K : Nat → Tk} (h : TkIn w b off n K) (hb : Below w.heap.size w w') : TkIn w' b off n K := by
  intro i hi
  obtain ⟨h1, h2, h3⟩ := h i hi
  exact ⟨(hb.cell (p := ⟨b, _, none⟩) (World.block_lt_of_cell? _ _ h1)).trans h1, (hb.cell (p := ⟨b, _, none⟩) (World.block_lt_of_cell? _ _ h2)).trans h2, (hb.cell (p := ⟨b, _, none⟩) (World.block_lt_of_cell? _ _ h3)).trans h3⟩
end Go.Proofs.YtolddecfibdblaaDoor

