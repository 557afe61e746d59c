/- What is ok, of parts around others; no Go text is walked here. -/
import Derived.Test.YtkbhljpdneibaaaDoorDp
import Derived.Test.YtkbhljpdneibaaaDoorMn
import Derived.Test.YtkbhljpdneibaaaDoorMf
import Derived.Test.YtkbhljpdneibaaaDoorMb
import Derived.Lib.BitFns
import Derived.Test.YtkbhljpdneibaaaDoorMo
import Derived.Test.YtkbhljpdneibaaaDoorTm
namespace Go.Proofs.YtkbhljpdneibaaaDoor
open Go.RowKit
set_option linter.unusedVariables false
set_option linter.unusedSimpArgs false

theorem form_up : ∀ (d : Nat) (S : Sh), formB d S = true → formB (d + 1) S = true
  | 0, S, h => by simp [formB] at h
  | d + 1, S, h => by
    obtain ⟨kind, n, L, H, m, K, rfl, _⟩ := Sh.cases S
    obtain ⟨h1, h2⟩ := form_kid h
    exact formB_all h1 (fun i hi => form_up d (K i) (h2 i hi))
theorem many_up : ∀ (d : Nat) (S : Sh), formB d S = true → manyN (d + 1) S = manyN d S
  | 0, S, h => by simp [formB] at h
  | d + 1, S, h => by
    obtain ⟨kind, n, L, H, m, K, rfl, _⟩ := Sh.cases S
    obtain ⟨h1, h2⟩ := form_kid h
    rw [manyN_mk, manyN_mk, sumN_congr (fun i hi => many_up d (K i) (h2 i hi))]
theorem okR_iff8 {S : Sh} : okR S = true ↔ formB 8 S = true ∧ manyN 8 S ≤ 24 := by
  simp only [okR, Bool.and_eq_true, decide_eq_true_eq]
/-- the parts of what is ok are ok -/
theorem ok_kid {kind : Int} {n : Nat} {L H : Nat → Int} {m : Nat} {K : Nat → Sh} (h : okR (.mk kind n L H m K) = true) {i : Nat} (hi : i < m) : okR (K i) = true ∧ manyN 8 (K i) = manyN 7 (K i) := by
  obtain ⟨h1, h2⟩ := okR_iff8.1 h
  obtain ⟨h3, h4⟩ := form_kid h1
  have h5 := h4 i hi
  have h6 := many_up 7 (K i) h5
  rw [manyN_mk] at h2
  have h7 : sumN (fun i => manyN 7 (K i)) i + manyN 7 (K i) ≤ sumN (fun i => manyN 7 (K i)) m := sumN_at hi
  exact ⟨okR_iff8.2 ⟨form_up 7 _ h5, by rw [h6]; omega⟩, h6⟩
/-- one part around one -/
def one1 (k : Int) (S : Sh) (M : Mx) : Sh := nodeS k [(S, M)]
theorem one1_eq (k : Int) (S : Sh) (M : Mx) : one1 k S M = .mk k 0 (fun _ => 0) (fun _ => 0) 1 (fun i => (([(S, M)] : List (Sh × Mx))[i]?.getD (leafS 0 0 (fun _ => 0) (fun _ => 0), .no)).1) := rfl
theorem one1_kid {k : Int} {S : Sh} {M : Mx} (h : okR (one1 k S M) = true) : okR S = true := by rw [one1_eq] at h; exact (ok_kid h (i := 0) (by omega)).1
theorem lk_not (S : Sh) (M : Mx) (l : List UInt8) : lkB (one1 7 S M) l = !lkB S l := by rw [one1_eq, lk_7]; rfl
theorem cnt_one1 (k : Int) (S : Sh) (M : Mx) : cnt (one1 k S M) = cnt S + 1 := by rw [one1, node_cnt]; simp [sumC]; omega
/-- the law of a text that is too long -/
theorem not_word {S : Sh} {M : Mx} {s : ByteArray} (h : okR (one1 7 S M) = true) : (s.size ≤ 12 → isB (one1 7 S M) s = !isB S s) ∧ (12 < s.size → isB S s = false ∧ isB (one1 7 S M) s = false) := by
  have hS := one1_kid h
  refine ⟨fun hs => ?_, fun hs => ?_⟩
  · rw [isB, isB, h, hS, show decide ((s.size : Int) ≤ 12) = true from decide_eq_true (by omega), lk_not]; simp
  · rw [isB, isB, show decide ((s.size : Int) ≤ 12) = false from decide_eq_false (by omega)]; simp
end Go.Proofs.YtkbhljpdneibaaaDoor

