/- the walks of szSpanSS, szIntS, szIntSS, szDfa -/
import Derived.Test.YtjpmdbaalhieoaaDoorJa
namespace Go.Proofs.YtjpmdbaalhieoaaDoor
open Go.RowKit
set_option linter.unusedVariables false
set_option linter.unusedSimpArgs false

set_option maxHeartbeats 1000000 in
theorem szSS_any (a : Option Addr) (b off cap n : Nat) (N : Nest) (left : Int) (w : World) (hga : 0 < n → a = some ⟨b, off, none⟩) (hc : SS w b off n N) (h0 : 0 ≤ left) (h1 : left ≤ 1048576) (hn : n ≤ 9223372036854775807) (hm : ∀ i, i < n → N.n i ≤ 9223372036854775807) :
    Calls Tryd.prog 4 #[.slice a n cap, .int .i64 left] w fun e w' => e = .returned (.int .i64 (leftOf left (n + tot N.n n))) ∧ w' = w := by
  by_cases hb : left < n
  · have hbz : left - (n : Int) < 0 := by omega
    rw [leftOf_neg (by omega)]
    go_enter Tryd.func4, Tryd.ntmps4
    go_wp2
    go_ret
    exact ⟨rfl, rfl⟩
  · have hbz : ¬ (left - (n : Int) < 0) := by omega
    go_enter Tryd.func4, Tryd.ntmps4
    go_wp2
    go_loop [1, 5] (fun t i => ∃ (k : Nat) (r : Int), k ≤ n ∧ i = .int .i64 k ∧ t = .int .i64 r ∧ 0 ≤ r ∧ r ≤ 1048576 ∧ Hid (r = left - n - tot N.n k)) (fun _ i => n - (intOf i).toNat)
    case atStart => exact ⟨0, left - n, Nat.zero_le _, rfl, rfl, by omega, by omega, by simp [Hid, tot]⟩
    case round =>
      obtain ⟨k, r, hk, rfl, rfl, hr0, hr1, HR⟩ := hrel
      by_cases hlt : k < n
      · obtain rfl := hga (by omega)
        have hltz : (k : Int) < (n : Int) := by omega
        obtain ⟨c1, _, _⟩ := hc k hlt
        go_wp2_with fail
        refine (sz_any (N.a k) (N.n k) (N.cap k) r _ hr0 hr1 (hm k hlt)).mono ?_
        by_cases hl : r < N.n k
        · rw [if_pos hl]
          have HL : Hid (leftOf left (n + tot N.n n) = -1) := by
            have h2 := tot_le N.n (j := k + 1) (k := n) hlt
            have h3 := HR.out
            simp only [tot] at h2
            exact leftOf_neg (by omega)
          rintro e w1 ⟨rfl, rfl⟩
          go_wp2
          go_ret
          exact ⟨ret_int HL.out.symm, rfl⟩
        · rw [if_neg hl]
          have hz : ¬ (r - (N.n k : Int) < 0) := by omega
          rintro e w1 ⟨rfl, rfl⟩
          go_wp2
          go_round
          case rel => exact ⟨k + 1, r - N.n k, by omega, by go_num, rfl, by omega, by omega, by have := HR.out; show r - N.n k = left - n - tot N.n (k + 1); simp only [tot]; omega⟩
          case measure => simp [intOf]; omega
      · have hltz : ¬ ((k : Int) < (n : Int)) := by omega
        obtain rfl : k = n := by omega
        have HL : Hid (leftOf left (k + tot N.n k) = r) := by
          have h3 := HR.out
          rw [Hid, leftOf_pos (by omega)]
          omega
        go_wp2
        go_ret
        exact ⟨ret_int HL.out.symm, rfl⟩

end Go.Proofs.YtjpmdbaalhieoaaDoor

