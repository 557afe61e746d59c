/- What is ok, of parts around others; no Go text is walked here. -/
import Derived.Test.YtkbhljpdneibaaaDoorDp
import Derived.Test.YtkbhljpdneibaaaDoorMn
import Derived.Test.YtkbhljpdneibaaaDoorMf
import Derived.Test.YtkbhljpdneibaaaDoorMb
import Derived.Lib.BitFns
import Derived.Test.YtkbhljpdneibaaaDoorMo
import Derived.Test.YtkbhljpdneibaaaDoorTm
namespace Go.Proofs.YtkbhljpdneibaaaDoor
open Go.RowKit
set_option linter.unusedVariables false
set_option linter.unusedSimpArgs false

theorem tx_append (s u : ByteArray) : tx (s ++ u) = tx s ++ tx u := by simp [tx, ByteArray.data_append]
/-- one part around one -/
def one1 (k : Int) (S : Sh) (M : Mx) : Sh := nodeS k [(S, M)]
def two2 (k : Int) (S : Sh) (M : Mx) (T : Sh) (N : Mx) : Sh := nodeS k [(S, M), (T, N)]
theorem one1_eq (k : Int) (S : Sh) (M : Mx) : one1 k S M = .mk k 0 (fun _ => 0) (fun _ => 0) 1 (fun i => (([(S, M)] : List (Sh × Mx))[i]?.getD (leafS 0 0 (fun _ => 0) (fun _ => 0), .no)).1) := rfl
theorem two2_eq (k : Int) (S : Sh) (M : Mx) (T : Sh) (N : Mx) : two2 k S M T N = .mk k 0 (fun _ => 0) (fun _ => 0) 2 (fun i => (([(S, M), (T, N)] : List (Sh × Mx))[i]?.getD (leafS 0 0 (fun _ => 0) (fun _ => 0), .no)).1) := rfl
theorem lk_star (S : Sh) (M : Mx) (l : List UInt8) : lkB (one1 5 S M) l = starS (lkB S) l := by rw [one1_eq, lk_5]; rfl
theorem lk_cat (S : Sh) (M : Mx) (T : Sh) (N : Mx) (l : List UInt8) : lkB (two2 3 S M T N) l = cutB (lkB S) (lkB T) l := by rw [two2_eq, lk_3]; rfl
theorem cnt_one1 (k : Int) (S : Sh) (M : Mx) : cnt (one1 k S M) = cnt S + 1 := by rw [one1, node_cnt]; simp [sumC]; omega
theorem cnt_two2 (k : Int) (S : Sh) (M : Mx) (T : Sh) (N : Mx) : cnt (two2 k S M T N) = cnt S + cnt T + 2 := by rw [two2, node_cnt]; simp [sumC]; omega

/-- one behind the other -/
theorem cat_word {S T : Sh} {M N : Mx} {s u : ByteArray} (h : okR (two2 3 S M T N) = true) (h1 : isB S s = true) (h2 : isB T u = true) (hs : s.size + u.size ≤ 12) : isB (two2 3 S M T N) (s ++ u) = true := by
  simp only [isB, Bool.and_eq_true] at h1 h2 ⊢
  refine ⟨h, decide_eq_true (by rw [ByteArray.size_append]; omega), ?_⟩
  rw [lk_cat, cutB_iff]
  have ht : tx (s ++ u) = tx s ++ tx u := tx_append s u
  refine ⟨(tx s).length, by rw [ht, List.length_append]; omega, ?_, ?_⟩
  · rw [ht, List.take_left]; exact h1.2.2
  · rw [ht, List.drop_left]; exact h2.2.2
theorem star_mk (f : List UInt8 → Bool) (l : List UInt8) (ps : List (List UInt8)) (h : ps.flatten = l) (hp : ∀ p ∈ ps, f p = true) : starS f l = true := by
  rw [starS, star_iff_of f l.length l (Nat.le_refl _)]
  refine ⟨ps.filter (fun p => !p.isEmpty), ?_, fun p hp' => ?_⟩
  · rw [← h]
    clear h hp
    induction ps with
    | nil => rfl
    | cons p ps ih => cases p <;> simp [ih]
  · rw [List.mem_filter] at hp'
    exact ⟨hp p hp'.1, by have := hp'.2; intro e; subst e; simp at this⟩
/-- some in a row -/
theorem star_word {S : Sh} {M : Mx} {s : ByteArray} (h : okR (one1 5 S M) = true) (h1 : isB S s = true) (hs : s.size ≤ 4) : isB (one1 5 S M) ⟨#[]⟩ = true ∧ isB (one1 5 S M) s = true ∧ isB (one1 5 S M) (s ++ s ++ s) = true := by
  have hl : lkB S (tx s) = true := by simp only [isB, Bool.and_eq_true] at h1; exact h1.2.2
  simp only [isB, Bool.and_eq_true, lk_star]
  refine ⟨⟨h, decide_eq_true (by show ((0 : Nat) : Int) ≤ 12; omega), star_mk _ _ [] rfl (fun p hp => by cases hp)⟩, ⟨h, decide_eq_true (by omega), star_mk _ _ [tx s] (by simp) (fun p hp => (List.mem_singleton.1 hp) ▸ hl)⟩, h, decide_eq_true (by rw [ByteArray.size_append, ByteArray.size_append]; omega), star_mk _ _ [tx s, tx s, tx s] (by rw [tx_append, tx_append]; simp) (fun p hp => ?_)⟩
  have : p = tx s := by simpa using hp
  rw [this]; exact hl
end Go.Proofs.YtkbhljpdneibaaaDoor

