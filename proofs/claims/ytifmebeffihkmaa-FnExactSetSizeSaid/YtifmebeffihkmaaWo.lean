/- the walks of the two SetSize -/
import Derived.Test.YtifmebeffihkmaaWn
namespace Go.Proofs.Ytifmebeffihkmaa
open Go.RowKit

theorem cnt_word (B : Nat → Bool) (i : Nat) : cnt (W B i).testBit 64 = cnt (fun j => B (64 * i + j)) 64 :=
  cnt_congr (fun j hj => by rw [W_testBit]; simp [hj])
theorem cnt_words (B : Nat → Bool) (k : Nat) : cnt B (64 * (k + 1)) = cnt B (64 * k) + cnt (W B k).testBit 64 := by
  rw [cnt_word, show 64 * (k + 1) = 64 * k + 64 by omega, cnt_add]

set_option maxHeartbeats 1000000 in
theorem size_any (B : Nat → Bool) (w : World) :
    Calls Try.prog 38 #[.agg #[wc B 0, wc B 1, wc B 2, wc B 3]] w fun e w' => e = .returned (.int .i64 (cnt B (64 * 4))) ∧ Below w.heap.size w w' := by
  have i0 : ∀ w, (Instr.index 45 (.agg #[wc B 0, wc B 1, wc B 2, wc B 3]) (.int .i64 0)).run Try.prog w = .ok (wc B 0) w := fun _ => by kernel_rfl
  have i1 : ∀ w, (Instr.index 45 (.agg #[wc B 0, wc B 1, wc B 2, wc B 3]) (.int .i64 1)).run Try.prog w = .ok (wc B 1) w := fun _ => by kernel_rfl
  have i2 : ∀ w, (Instr.index 45 (.agg #[wc B 0, wc B 1, wc B 2, wc B 3]) (.int .i64 2)).run Try.prog w = .ok (wc B 2) w := fun _ => by kernel_rfl
  have i3 : ∀ w, (Instr.index 45 (.agg #[wc B 0, wc B 1, wc B 2, wc B 3]) (.int .i64 3)).run Try.prog w = .ok (wc B 3) w := fun _ => by kernel_rfl
  go_enter Try.func38, Try.ntmps38
  go_wp2
  go_loopw [3, 7] (fun t i wr => ∃ k : Nat, k ≤ 4 ∧ i = .int .i64 k ∧ t = .int .i64 (cnt B (64 * k)) ∧ Below w.heap.size w wr) (fun _ i _ => 4 - (intOf i).toNat)
  case atStart => exact ⟨0, by omega, rfl, rfl, (Below.refl _ _).alloc (Nat.le_refl _) _⟩
  case round =>
    obtain ⟨k, hk, rfl, rfl, hB⟩ := hrel
    have hb := cnt_le B (64 * k)
    have hw : ∀ i, cnt (W B i).testBit 64 ≤ 64 := fun i => cnt_le _ _
    by_cases hlt : k < 4
    · have hc := cnt_words B k
      have HCk : Hid (cnt B (64 * (k + 1)) = cnt B (64 * k) + cnt (W B k).testBit 64) := hc
      clear hc
      have hwk := hw k
      have ik : (Instr.index 45 (.agg #[wc B 0, wc B 1, wc B 2, wc B 3]) (.int .i64 k)).run Try.prog wr = .ok (wc B k) wr := by
        have : k = 0 ∨ k = 1 ∨ k = 2 ∨ k = 3 := by omega
        rcases this with rfl | rfl | rfl | rfl
        · exact i0 wr
        · exact i1 wr
        · exact i2 wr
        · exact i3 wr
      clear i0 i1 i2 i3 hw
      have hltz : (k : Int) < 4 := by omega
      generalize hcn : cnt B (64 * k) = c0 at *
      go_wp2_with fail
      refine (ones_any (W B k) (W_lt B k) _).mono ?_
      rintro e w1 ⟨rfl, hw1⟩
      subst w1
      go_wp2
      go_roundw
      case rel => exact ⟨k + 1, by omega, by go_num, by rw [HCk.out]; go_num, hB⟩
      case measure => simp [intOf]; omega
    · clear i0 i1 i2 i3 hw
      go_wp2
      go_ret
      obtain rfl : k = 4 := by omega
      exact ⟨rfl, hB⟩

set_option maxRecDepth 100000 in
set_option maxHeartbeats 1000000 in
theorem specSetSize_any (a : Option Addr) (b off cap n : Nat) (L H : Nat → Int) (w : World) (hga : 0 < n → a = some ⟨b, off, none⟩) (hc : Sp w b off n L H) (hn : n ≤ 4194304) (N : Nat) (HN : Hid (N = cnt (hs n L H) 256)) :
    Calls Try.prog 27 #[.slice a n cap] w fun e w' => e = .returned (.int .i64 N) ∧ w' = w := by
  go_enter Try.func27, Try.ntmps27
  go_wp2
  go_loop [3, 4] (fun t i => ∃ (k c : Nat), k ≤ 256 ∧ i = .int .i64 k ∧ t = .int .i64 c ∧ c ≤ k ∧ Hid (c = cnt (hs n L H) k)) (fun _ i => 256 - (intOf i).toNat)
  case atStart => exact ⟨0, 0, by omega, rfl, rfl, by omega, rfl⟩
  case round =>
    obtain ⟨k, c, hk, rfl, rfl, hck, HC⟩ := hrel
    by_cases hlt : k < 256
    · have hltz : (k : Int) < 256 := by omega
      have H1 := specSetHas_any a b off cap n L H k w hga hc hn
      by_cases hh : hasB n L H k = true
      · rw [hh] at H1
        have HS : Hid (cnt (hs n L H) (k + 1) = c + 1) := by rw [cnt, ← HC.out]; simp [hs, hh, Hid]
        have H1' : Hid (Calls Try.prog 17 #[.slice a n cap, .int .i64 k] w fun e w' => e = .returned (.bool true) ∧ w' = w) := H1
        clear H1 hh
        go_wp2_with fail
        refine H1'.out.mono ?_
        rintro e w1 ⟨rfl, hw1⟩
        subst w1
        go_wp2
        go_round
        case rel => exact ⟨k + 1, c + 1, by omega, by go_num, by go_num, by omega, HS.out.symm⟩
        case measure => simp [intOf]; omega
      · have hh' : hasB n L H k = false := Bool.eq_false_iff.2 hh
        rw [hh'] at H1
        have HS : Hid (cnt (hs n L H) (k + 1) = c) := by rw [cnt, ← HC.out]; simp [hs, hh', Hid]
        have H1' : Hid (Calls Try.prog 17 #[.slice a n cap, .int .i64 k] w fun e w' => e = .returned (.bool false) ∧ w' = w) := H1
        clear H1 hh hh'
        go_wp2_with fail
        refine H1'.out.mono ?_
        rintro e w1 ⟨rfl, hw1⟩
        subst w1
        go_wp2
        go_round
        case rel => exact ⟨k + 1, c, by omega, by go_num, rfl, by omega, HS.out.symm⟩
        case measure => simp [intOf]; omega
    · go_wp2
      go_ret
      have e : k = 256 := by omega
      exact ⟨ret_int (by rw [HN.out, HC.out, e]), rfl⟩

set_option maxHeartbeats 1000000 in
theorem implSetSize_any (a : Option Addr) (b off cap n : Nat) (L H : Nat → Int) (w : World) (hga : 0 < n → a = some ⟨b, off, none⟩) (hc : Sp w b off n L H) (hn : n ≤ 4194304) (N : Nat) (HN : Hid (N = cnt (hs n L H) 256)) :
    Calls Try.prog 28 #[.slice a n cap] w fun e w' => e = .returned (.int .i64 N) ∧ Below w.heap.size w w' := by
  have HZ : Hid (∀ w : World, Calls Try.prog 38 #[.agg #[wc (hs n L H) 0, wc (hs n L H) 1, wc (hs n L H) 2, wc (hs n L H) 3]] w fun e w' => e = .returned (.int .i64 N) ∧ Below w.heap.size w w') := fun w => by
    rw [HN.out]; exact size_any (hs n L H) w
  go_enter Try.func28, Try.ntmps28
  go_wp2_with fail
  refine (bitsOf_any a b off cap n L H _ hga hc hn).mono ?_
  rintro e w1 ⟨rfl, hb1⟩
  go_wp2_with fail
  refine (HZ.out w1).mono ?_
  rintro e w2 ⟨rfl, hb2⟩
  go_wp2
  go_ret
  exact ⟨rfl, hb1.trans (hb2.mono hb1.size)⟩
end Go.Proofs.Ytifmebeffihkmaa
