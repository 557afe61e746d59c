/- Sets of places as numbers, and the walks of the small functions: SetHas, MatchWord, onePlace, has, last. -/
import Derived.Test.YtolddecfibdblaaDoorTe
namespace Go.Proofs.YtolddecfibdblaaDoor
open Go.RowKit
set_option linter.unusedVariables false
set_option linter.unusedSimpArgs false

/-- x is in one of the spans -/
def hasB (n : Nat) (L H : Nat → Int) (x : Int) : Bool := (List.range n).any fun i => decide (L i ≤ x ∧ x ≤ H i)

theorem hasB_iff {n : Nat} {L H : Nat → Int} {x : Int} : hasB n L H x = true ↔ ∃ i, i < n ∧ L i ≤ x ∧ x ≤ H i := by
  simp only [hasB, List.any_eq_true, List.mem_range, decide_eq_true_eq]
theorem hasB_true {n k : Nat} {L H : Nat → Int} {x : Int} (hk : k < n) (h : L k ≤ x ∧ x ≤ H k) : hasB n L H x = true := hasB_iff.2 ⟨k, hk, h⟩
theorem hasB_false {n : Nat} {L H : Nat → Int} {x : Int} (h : ∀ i, i < n → ¬ (L i ≤ x ∧ x ≤ H i)) : hasB n L H x = false := by
  rw [← Bool.not_eq_true]
  intro e
  obtain ⟨i, hi, hh⟩ := hasB_iff.1 e
  exact h i hi hh
theorem has_step {k : Nat} {L H : Nat → Int} {x : Int} (hall : ∀ i, i < k → ¬ (L i ≤ x ∧ x ≤ H i)) (h : ¬ (L k ≤ x ∧ x ≤ H k)) : ∀ i, i < k + 1 → ¬ (L i ≤ x ∧ x ≤ H i) := by
  intro j hj
  by_cases e : j = k
  · subst e; exact h
  · exact hall j (by omega)

set_option maxHeartbeats 400000 in
theorem specSetHas_any (a : Option Addr) (b off cap n : Nat) (L H : Nat → Int) (x : Int) (w : World) (hga : 0 < n → a = some ⟨b, off, none⟩) (hc : Sp w b off n L H) (hn : n ≤ 4194304) :
    Calls Tryd.prog 60 #[.slice a n cap, .int .i64 x] w fun e w' => e = .returned (.bool (hasB n L H x)) ∧ w' = w := by
  go_enter Tryd.func60, Tryd.ntmps60
  go_wp2
  go_loop [5] (fun i => ∃ (k : Nat), k ≤ n ∧ i = .int .i64 k ∧ Hid (∀ i, i < k → ¬ (L i ≤ x ∧ x ≤ H i))) (fun i => n - (intOf i).toNat)
  case atStart => exact ⟨0, Nat.zero_le _, rfl, fun j hj => absurd hj (Nat.not_lt_zero _)⟩
  case round =>
    obtain ⟨k, hk, rfl, Hall⟩ := hrel
    by_cases hlt : k < n
    · obtain rfl := hga (by omega)
      have hltz : (k : Int) < (n : Int) := by omega
      obtain ⟨c1, c2⟩ := hc k hlt
      by_cases t1 : L k ≤ x
      · by_cases t2 : x ≤ H k
        · go_wp2
          go_ret
          exact ⟨ret_bool (hasB_true hlt ⟨t1, t2⟩).symm, rfl⟩
        · have t2' : decide (x ≤ H k) = false := by simpa using t2
          go_wp2
          go_round
          case rel => exact ⟨k + 1, by omega, by go_num, has_step Hall.out (by omega)⟩
          case measure => simp [intOf]; omega
      · have t1' : decide (L k ≤ x) = false := by simpa using t1
        go_wp2
        go_round
        case rel => exact ⟨k + 1, by omega, by go_num, has_step Hall.out (by omega)⟩
        case measure => simp [intOf]; omega
    · go_wp2
      go_ret
      obtain rfl : k = n := by omega
      exact ⟨ret_bool (hasB_false Hall.out).symm, rfl⟩

end Go.Proofs.YtolddecfibdblaaDoor

