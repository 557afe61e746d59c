/- l3Is at every Rex, and the model's MatchIs -/
import Derived.Test.YtkbhljpdneibaaaDoorMb
namespace Go.Proofs.YtkbhljpdneibaaaDoor
open Go.RowKit
set_option linter.unusedVariables false
set_option linter.unusedSimpArgs false

/-- the matching function of the model, at one Rex (as a value), from this world on -/
def L3 (w : World) (v : Value) (f : List UInt8 → Bool) : Prop := ∀ (s : ByteArray) (w1 : World), s.size ≤ 12 → Below w.heap.size w w1 →
  Calls Tryd.prog 34 #[v, .string s] w1 fun e w' => e = .returned (.bool (f (tx s))) ∧ Below w1.heap.size w1 w'

end Go.Proofs.YtkbhljpdneibaaaDoor
namespace Go.Proofs.YtkbhljpdneibaaaDoor
open Go.RowKit
set_option linter.unusedVariables false
set_option linter.unusedSimpArgs false

theorem L3.mono {w w' : World} {v : Value} {f : List UInt8 → Bool} (h : L3 w v f) (hb : Below w.heap.size w w') : L3 w' v f := fun s w1 hs hb1 => h s w1 hs (hb.trans (hb1.mono hb.size))
end Go.Proofs.YtkbhljpdneibaaaDoor
namespace Go.Proofs.YtkbhljpdneibaaaDoor
open Go.RowKit
set_option linter.unusedVariables false
set_option linter.unusedSimpArgs false

theorem good_kids {kind : Int} {n : Nat} {L H : Nat → Int} {m : Nat} (h : goodB kind n L H m = true) : kidsOf kind = (m : Int) := by
  simp only [goodB, Bool.and_eq_true, beq_iff_eq] at h
  exact h.1.1
theorem form_kid {d : Nat} {kind : Int} {n : Nat} {L H : Nat → Int} {m : Nat} {K : Nat → Sh} (h : formB (d + 1) (.mk kind n L H m K) = true) : goodB kind n L H m = true ∧ ∀ i, i < m → formB d (K i) = true := by
  simp only [formB_mk, Bool.and_eq_true, List.all_eq_true, List.mem_range] at h
  exact h
theorem kids_cases {kind : Int} {m : Nat} (h : kidsOf kind = (m : Int)) : (kind = 1 ∧ m = 0) ∨ (kind = 2 ∧ m = 0) ∨ (kind = 3 ∧ m = 2) ∨ (kind = 4 ∧ m = 2) ∨ (kind = 5 ∧ m = 1) ∨ (kind = 6 ∧ m = 2) ∨ (kind = 7 ∧ m = 1) := by
  unfold kidsOf at h
  split at h
  · omega
  · split at h
    · omega
    · split at h <;> omega

/-- r is as it must be, the text is one that is asked of, and it is like r -/
def isB (S : Sh) (s : ByteArray) : Bool := okR S && (decide ((s.size : Int) ≤ 12) && lkB S (tx s))
theorem okR_form {S : Sh} (h : okR S = true) : formB 8 S = true := by
  simp only [okR, Bool.and_eq_true] at h
  exact h.1

end Go.Proofs.YtkbhljpdneibaaaDoor

