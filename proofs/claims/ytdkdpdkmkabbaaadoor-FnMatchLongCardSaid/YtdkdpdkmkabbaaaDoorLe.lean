/- What the laws that draw say of the longest piece, and the walk of the law FnMatchEnds. -/
import Derived.Test.YtdkdpdkmkabbaaaDoorDq
import Derived.Test.YtdkdpdkmkabbaaaDoorMs
import Derived.Test.YtdkdpdkmkabbaaaDoorTp
import Derived.Test.YtdkdpdkmkabbaaaDoorTq
namespace Go.Proofs.YtdkdpdkmkabbaaaDoor
open Go.RowKit
set_option linter.unusedVariables false
set_option linter.unusedSimpArgs false

/-- the empty text is like it just as it is told -/
theorem null_lk (S : Sh) : ∀ d, formB d S = true → nullR S = lkB S [] := by
  induction S using Sh.ind with
  | h kind n L H m K ih =>
    intro d h
    cases d with
    | zero => simp [formB] at h
    | succ d =>
      obtain ⟨hg, hk⟩ := form_kid h
      have hkid := good_kids hg
      have hkinds : kind = 1 ∨ kind = 2 ∨ kind = 3 ∨ kind = 4 ∨ kind = 5 ∨ kind = 6 ∨ kind = 7 := by
        unfold kidsOf at hkid
        split at hkid
        all_goals first
          | omega
          | skip
      rcases hkinds with rfl | rfl | rfl | rfl | rfl | rfl | rfl
      · rw [null_1, lk_1]; rfl
      · rw [null_2, lk_2]; rfl
      · obtain rfl : m = 2 := by have : kidsOf 3 = 2 := rfl
                                 omega
        rw [null_3, lk_3, ih 0 (by omega) d (hk 0 (by omega)), ih 1 (by omega) d (hk 1 (by omega))]
        simp [cutB]
      · obtain rfl : m = 2 := by have : kidsOf 4 = 2 := rfl
                                 omega
        rw [null_4, lk_4, ih 0 (by omega) d (hk 0 (by omega)), ih 1 (by omega) d (hk 1 (by omega))]
      · obtain rfl : m = 1 := by have : kidsOf 5 = 1 := rfl
                                 omega
        rw [null_5, lk_5]; rfl
      · obtain rfl : m = 2 := by have : kidsOf 6 = 2 := rfl
                                 omega
        rw [null_6, lk_6, ih 0 (by omega) d (hk 0 (by omega)), ih 1 (by omega) d (hk 1 (by omega))]
      · obtain rfl : m = 1 := by have : kidsOf 7 = 1 := rfl
                                 omega
        rw [null_7, lk_7, ih 0 (by omega) d (hk 0 (by omega))]
theorem null_piece {S : Sh} (hok : okR S = true) (t : List UInt8) (a : Nat) : pieceB S t a 0 = nullR S := by
  have h8 : formB 8 S = true := by have := hok; simp only [okR, Bool.and_eq_true] at this; exact this.1
  rw [null_lk S 8 h8, pieceB, List.take_zero]
theorem topI_at {B : Nat → Bool} : ∀ {n : Nat}, 0 ≤ topI B n → B (topI B n).toNat = true
  | 0, h => by simp [topI] at h
  | n + 1, h => by
    rw [topI] at h ⊢
    split
    · rename_i hb; simpa using hb
    · rename_i hb; rw [if_neg hb] at h; exact topI_at h
theorem topI_gt {B : Nat → Bool} : ∀ {n k : Nat}, topI B n < (k : Int) → k < n → B k = false
  | 0, k, _, h => absurd h (Nat.not_lt_zero _)
  | n + 1, k, h, hk => by
    rw [topI] at h
    by_cases e : B n = true
    · rw [if_pos e] at h; omega
    · rw [if_neg e] at h
      by_cases ek : k = n
      · subst ek; simpa using e
      · exact topI_gt h (by omega)
end Go.Proofs.YtdkdpdkmkabbaaaDoor

