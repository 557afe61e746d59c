/- the walks of DfaRun: the model's side -/
import Derived.Test.YtolddecfibdblaaDoorJq
namespace Go.Proofs.YtolddecfibdblaaDoor
open Go.RowKit
set_option linter.unusedVariables false
set_option linter.unusedSimpArgs false

/-- what DfaNext tells -/
def NextR (D : Dx) (s x : Int) (r : Int) : Prop := (DOk D ∧ 0 ≤ s ∧ s < D.rn ∧ NextOf D s.toNat x r) ∨ ((¬ DOk D ∨ s < 0 ∨ (D.rn : Int) ≤ s) ∧ r = -1)
theorem NextR.unique {D : Dx} {s x r r' : Int} (h : NextR D s x r) (h' : NextR D s x r') : r = r' := by
  rcases h with ⟨a, b, c, d⟩ | ⟨a, rfl⟩ <;> rcases h' with ⟨a', b', c', d'⟩ | ⟨a', rfl⟩
  · exact d.unique a d'
  · rcases a' with g | g | g
    · exact absurd a g
    · omega
    · omega
  · rcases a with g | g | g
    · exact absurd a' g
    · omega
    · omega
  · rfl
theorem NextR.congr {D D' : Dx} (e : DEq D D') {s x r : Int} (h : NextR D s x r) : NextR D' s x r := by
  have he := e.2.1.1
  rcases h with ⟨a, b, c, d⟩ | ⟨a, rfl⟩
  · exact .inl ⟨a.congr e, b, by omega, d.congr e (by omega) (a.at (by omega)).1⟩
  · refine .inr ⟨?_, rfl⟩
    rcases a with g | g | g
    · exact .inl (fun h => g (h.congr e.symm))
    · exact .inr (.inl g)
    · exact .inr (.inr (by omega))
/-- what is told says r of which P -/
def IsI (P : Int → Prop) (w : World) (e : Ending) (w' : World) : Prop := ∃ r : Int, e = .returned (.int .i64 r) ∧ P r ∧ Below w.heap.size w w'
theorem IsI.mk' {P : Int → Prop} {w w' : World} {r : Int} (h : P r) (hb : Below w.heap.size w w') : IsI P w (.returned (.int .i64 r)) w' := ⟨r, rfl, h, hb⟩

end Go.Proofs.YtolddecfibdblaaDoor
namespace Go.Proofs.YtolddecfibdblaaDoor
open Go.RowKit
set_option linter.unusedVariables false
set_option linter.unusedSimpArgs false

/-- byte i of a text -/
def byteAt (t : ByteArray) (i : Nat) : Nat := if h : i < t.size then (t[i]'h).toNat else 0
theorem byteAt_eq {t : ByteArray} {i : Nat} {x : UInt8} (h : i < t.size) (hx : t[i]'h = x) : byteAt t i = x.toNat := by rw [byteAt, dif_pos h, hx]
/-- the state behind the first i bytes; once below 0 it stays -/
def RunAt (D : Dx) (t : ByteArray) : Nat → Int → Prop
  | 0 => fun r => r = 0
  | i + 1 => fun r => ∃ s, RunAt D t i s ∧ ((s < 0 ∧ r = s) ∨ (0 ≤ s ∧ NextOf D s.toNat (byteAt t i) r))
theorem RunAt.bd {D : Dx} (h : DOk D) {t : ByteArray} {i : Nat} {r : Int} (hr : RunAt D t i r) : -1 ≤ r ∧ r ≤ (D.rn : Int) - 1 := by
  induction i generalizing r with
  | zero => have := h.2.1.1; simp only [RunAt] at hr; omega
  | succ i ih =>
    obtain ⟨s, hs, h1⟩ := hr
    have hb := ih hs
    rcases h1 with ⟨h1, rfl⟩ | ⟨h1, h2⟩
    · omega
    · exact h2.bd h (by omega)
theorem RunAt.unique {D : Dx} (h : DOk D) {t : ByteArray} {i : Nat} {r r' : Int} (h1 : RunAt D t i r) (h2 : RunAt D t i r') : r = r' := by
  induction i generalizing r r' with
  | zero => exact h1.trans h2.symm
  | succ i ih =>
    obtain ⟨s, hs, g1⟩ := h1
    obtain ⟨s', hs', g2⟩ := h2
    obtain rfl := ih hs hs'
    rcases g1 with ⟨a, rfl⟩ | ⟨a, b⟩ <;> rcases g2 with ⟨c, rfl⟩ | ⟨c, d⟩
    · rfl
    · omega
    · omega
    · exact b.unique h d
theorem RunAt.stay {D : Dx} {t : ByteArray} {i j : Nat} {r : Int} (hr : r < 0) (h : RunAt D t i r) (hj : i ≤ j) : RunAt D t j r := by
  induction j with
  | zero => obtain rfl : i = 0 := by omega
            exact h
  | succ j ih =>
    by_cases e : i = j + 1
    · exact e ▸ h
    · exact ⟨r, ih (by omega), .inl ⟨hr, rfl⟩⟩
theorem RunAt.congr {D D' : Dx} (e : DEq D D') (h : DOk D) {t : ByteArray} {i : Nat} {r : Int} (hr : RunAt D t i r) : RunAt D' t i r := by
  induction i generalizing r with
  | zero => exact hr
  | succ i ih =>
    obtain ⟨s, hs, h1⟩ := hr
    have hb := hs.bd h
    refine ⟨s, ih hs, ?_⟩
    rcases h1 with h1 | ⟨h1, h2⟩
    · exact .inl h1
    · exact .inr ⟨h1, h2.congr e (by omega) (h.at (by omega)).1⟩
/-- what DfaRun tells -/
def RunR (D : Dx) (t : ByteArray) (r : Int) : Prop := (DOk D ∧ RunAt D t t.size r) ∨ (¬ DOk D ∧ r = -1)
theorem RunR.unique {D : Dx} {t : ByteArray} {r r' : Int} (h : RunR D t r) (h' : RunR D t r') : r = r' := by
  rcases h with ⟨a, b⟩ | ⟨a, rfl⟩ <;> rcases h' with ⟨c, d⟩ | ⟨c, rfl⟩
  · exact b.unique a d
  · exact absurd a c
  · exact absurd c a
  · rfl
theorem RunR.congr {D D' : Dx} (e : DEq D D') {t : ByteArray} {r : Int} (h : RunR D t r) : RunR D' t r := by
  rcases h with ⟨a, b⟩ | ⟨a, rfl⟩
  · exact .inl ⟨a.congr e, b.congr e a⟩
  · exact .inr ⟨fun h => a (h.congr e.symm), rfl⟩
end Go.Proofs.YtolddecfibdblaaDoor

