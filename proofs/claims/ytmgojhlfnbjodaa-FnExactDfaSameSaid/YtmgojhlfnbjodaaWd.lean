/- the walks of the two SetSame -/
import Derived.Test.YtmgojhlfnbjodaaWb
import Derived.Laws.StructEq
namespace Go.Proofs.Ytmgojhlfnbjodaa
open Go.RowKit

theorem fields50 : (Try.prog.fieldsOf 50).toList = [{ name := "Lo", type := 3, offset := 0, embedded := false, tag := "", pkgPath := "", byteOffset := 0 }, { name := "Hi", type := 3, offset := 1, embedded := false, tag := "", pkgPath := "", byteOffset := 8 }] := by kernel_rfl

theorem neq50 (x y z t : Int) (w : World) : (binOp .neq 50 (.agg #[.int .i64 x, .int .i64 y]) (.agg #[.int .i64 z, .int .i64 t])).run Try.prog w = .ok (.bool (!(x == z && y == t))) w := by
  rw [run_neq_struct, run_equalIn_agg _ _ _ _ _ (by kernel_rfl) (by kernel_rfl), fields50]
  by_cases h : (x == z) = true
  · by_cases h2 : y = t <;> simp [go_sem, h, h2]
  · simp at h
    simp [go_sem, h]

set_option maxHeartbeats 400000 in
theorem specSetSame_any (a a' : Option Addr) (b off cap n b' off' cap' m : Nat) (L H L' H' : Nat → Int) (w : World) (hga : 0 < n → a = some ⟨b, off, none⟩) (hc : Sp w b off n L H)
    (hga' : 0 < m → a' = some ⟨b', off', none⟩) (hc' : Sp w b' off' m L' H') (hn : n ≤ 4194304) (hm : m ≤ 4194304) :
    Calls Try.prog 13 #[.slice a n cap, .slice a' m cap'] w fun e w' => e = .returned (.bool (eqB n L H m L' H')) ∧ Below w.heap.size w w' := by
  have hneq := neq50
  by_cases hnm : n = m
  · subst hnm
    have hnn : ((n : Int) != (n : Int)) = false := by simp
    go_enter Try.func13, Try.ntmps13
    go_wp2
    go_loopw [5] (fun i wr => ∃ k : Nat, k ≤ n ∧ i = .int .i64 k ∧ Hid (∀ j, j < k → L j = L' j ∧ H j = H' j) ∧ Below w.heap.size w wr) (fun i _ => n - (intOf i).toNat)
    case atStart => exact ⟨0, Nat.zero_le _, rfl, fun j hj => absurd hj (Nat.not_lt_zero _), Below.refl _ _⟩
    case round =>
      obtain ⟨k, hk, rfl, Hall, hB⟩ := hrel
      by_cases hlt : k < n
      · obtain rfl := hga (by omega)
        obtain rfl := hga' (by omega)
        have hltz : (k : Int) < (n : Int) := by omega
        obtain ⟨c1, c2⟩ := (hc.below hB) k hlt
        obtain ⟨c3, c4⟩ := (hc'.below hB) k hlt
        go_wp2_with fail
        go_quiet (fail)
        go_wp2
        all_goals first
          | (go_roundw; case rel => exact ⟨k + 1, by omega, by go_num, eq_step Hall.out (by assumption), below_drewN hB _⟩
             case measure => simp [intOf]; omega)
          | (go_ret; exact ⟨ret_bool (eqB_at' hlt (by assumption)).symm, below_drewN hB _⟩)
      · go_wp2
        go_ret
        obtain rfl : k = n := by omega
        exact ⟨ret_bool (eqB_all Hall.out).symm, hB⟩
  · have hnn : ((n : Int) != (m : Int)) = true := by simp; omega
    go_enter Try.func13, Try.ntmps13
    go_wp2
    go_ret
    exact ⟨ret_bool (eqB_len hnm).symm, Below.refl _ _⟩
set_option maxHeartbeats 400000 in
theorem slicesEqual_any (a a' : Option Addr) (b off cap n b' off' cap' m : Nat) (L H L' H' : Nat → Int) (w : World) (hga : 0 < n → a = some ⟨b, off, none⟩) (hc : Sp w b off n L H)
    (hga' : 0 < m → a' = some ⟨b', off', none⟩) (hc' : Sp w b' off' m L' H') (hn : n ≤ 4194304) (hm : m ≤ 4194304) :
    Calls Try.prog 26 #[.slice a n cap, .slice a' m cap'] w fun e w' => e = .returned (.bool (eqB n L H m L' H')) ∧ Below w.heap.size w w' := by
  have hneq := neq50
  by_cases hnm : n = m
  · subst hnm
    have hnn : ((n : Int) != (n : Int)) = false := by simp
    go_enter Try.func26, Try.ntmps26
    go_wp2
    go_loopw [5, 13] (fun _ i wr => ∃ k : Nat, k ≤ n ∧ i = .int .i64 k ∧ Hid (∀ j, j < k → L j = L' j ∧ H j = H' j) ∧ Below w.heap.size w wr) (fun _ i _ => n - (intOf i).toNat)
    case atStart => exact ⟨0, Nat.zero_le _, rfl, fun j hj => absurd hj (Nat.not_lt_zero _), Below.refl _ _⟩
    case round =>
      obtain ⟨k, hk, rfl, Hall, hB⟩ := hrel
      by_cases hlt : k < n
      · obtain rfl := hga (by omega)
        obtain rfl := hga' (by omega)
        have hltz : (k : Int) < (n : Int) := by omega
        obtain ⟨c1, c2⟩ := (hc.below hB) k hlt
        obtain ⟨c3, c4⟩ := (hc'.below hB) k hlt
        go_wp2_with fail
        go_quiet (fail)
        go_wp2
        all_goals first
          | (go_roundw; case rel => exact ⟨k + 1, by omega, by go_num, eq_step Hall.out (by assumption), below_drewN hB _⟩
             case measure => simp [intOf]; omega)
          | (go_ret; exact ⟨ret_bool (eqB_at' hlt (by assumption)).symm, below_drewN hB _⟩)
      · go_wp2
        go_ret
        obtain rfl : k = n := by omega
        exact ⟨ret_bool (eqB_all Hall.out).symm, hB⟩
  · have hnn : ((n : Int) != (m : Int)) = true := by simp; omega
    go_enter Try.func26, Try.ntmps26
    go_wp2
    go_ret
    exact ⟨ret_bool (eqB_len hnm).symm, Below.refl _ _⟩
set_option maxHeartbeats 400000 in
theorem implSetSame_any (a a' : Option Addr) (b off cap n b' off' cap' m : Nat) (L H L' H' : Nat → Int) (w : World) (hga : 0 < n → a = some ⟨b, off, none⟩) (hc : Sp w b off n L H)
    (hga' : 0 < m → a' = some ⟨b', off', none⟩) (hc' : Sp w b' off' m L' H') (hn : n ≤ 4194304) (hm : m ≤ 4194304) :
    Calls Try.prog 18 #[.slice a n cap, .slice a' m cap'] w fun e w' => e = .returned (.bool (eqB n L H m L' H')) ∧ Below w.heap.size w w' := by
  go_enter Try.func18, Try.ntmps18
  go_wp2_with fail
  refine (slicesEqual_any a a' b off cap n b' off' cap' m L H L' H' _ hga hc hga' hc' hn hm).mono ?_
  rintro e w1 ⟨rfl, hb1⟩
  go_wp2
  go_ret
  exact ⟨rfl, hb1⟩
end Go.Proofs.Ytmgojhlfnbjodaa

