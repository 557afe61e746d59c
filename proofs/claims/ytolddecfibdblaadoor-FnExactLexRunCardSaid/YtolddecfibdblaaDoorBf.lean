/- the walks of TrailingZeros64 and of the two SetFirst -/
import Derived.Test.YtolddecfibdblaaDoorBw
import Derived.Test.YtolddecfibdblaaDoorBz
import Derived.Test.YtolddecfibdblaaDoorYa
import Derived.Laws.BitsAllLaws
namespace Go.Proofs.YtolddecfibdblaaDoor
open Go.RowKit
set_option linter.unusedVariables false
set_option linter.unusedSimpArgs false

/-- the library's table lies where it must -/
def TabZ (w : World) : Prop := ∀ i, i < 64 → w.cell? ⟨0, i, none⟩ = some (.int .u8 ((dB.getD i 0 : Nat) : Int))
theorem TabZ.below {w w' : World} (h : TabZ w) (hb : Below w.heap.size w w') : TabZ w' := fun i hi =>
  (hb.cell (p := ⟨0, i, none⟩) (World.block_lt_of_cell? _ _ (h i hi))).trans (h i hi)

theorem tz_step (x t : Nat) (h0 : x ≠ 0) (hx : x < 18446744073709551616) (hand : x &&& (2 ^ 64 - x) = 2 ^ t) :
    IntKind.u64.wrap (bits BinOp.and IntKind.u64 (x : Int) (IntKind.u64.wrap (-(x : Int))) * 285870213051353865) / 288230376151711744 = ((2 ^ t * 285870213051353865 % 18446744073709551616 / 288230376151711744 : Nat) : Int) := by
  have e1 : IntKind.u64.wrap (-(x : Int)) = ((2 ^ 64 - x : Nat) : Int) := by
    rw [IntKind.wrap_u64]
    have h64 : (2 : Nat) ^ 64 = 18446744073709551616 := by decide
    rw [h64]
    omega
  rw [e1, u64_and_nat x _ hx (by rw [show (2 : Nat) ^ 64 = 18446744073709551616 from by decide]; omega), hand, IntKind.wrap_u64]
  simp

set_option maxHeartbeats 1000000 in
theorem tz_any (x : Nat) (h0 : x ≠ 0) (hx : x < 18446744073709551616) (w : World) (ht : TabZ w) :
    Calls Tryd.prog 72 #[.int .u64 (x : Int)] w fun e w' => ∃ t : Nat, e = .returned (.int .i64 t) ∧ t < 64 ∧ x.testBit t = true ∧ (∀ j, j < t → x.testBit j = false) ∧ w' = w := by
  obtain ⟨t, ht64, hb, hlow, hand⟩ := least_bit x h0 (by simpa using hx)
  have hne : ((x : Int) == 0) = false := by simp; omega
  have e1 := tz_step x t h0 hx hand
  have e2 := dB_ix t ht64
  have e3 := dB_at t ht64
  obtain ⟨ix, hix⟩ : ∃ ix, 2 ^ t * 285870213051353865 % 18446744073709551616 / 288230376151711744 = ix := ⟨_, rfl⟩
  rw [hix] at e1 e2 e3
  clear hix
  have hcell := ht ix e2
  rw [e3] at hcell
  have hixz : (ix : Int) < 64 := by omega
  have HB : Hid (x.testBit t = true) := hb
  have HL : Hid (∀ j, j < t → x.testBit j = false) := hlow
  clear e3 hand hb hlow
  go_enter Tryd.func72, Tryd.ntmps72
  go_wp2
  go_ret
  exact ⟨t, rfl, ht64, HB.out, HL.out, rfl⟩

set_option maxHeartbeats 1000000 in
theorem first_any (B : Nat → Bool) (w : World) (ht : TabZ w) :
    Calls Tryd.prog 64 #[.agg #[wc B 0, wc B 1, wc B 2, wc B 3]] w fun e w' => ∃ r : Int, e = .returned (.int .i64 r) ∧ FirstB B r ∧ Below w.heap.size w w' := by
  have i0 : ∀ w, (Instr.index 92 (.agg #[wc B 0, wc B 1, wc B 2, wc B 3]) (.int .i64 0)).run Tryd.prog w = .ok (wc B 0) w := fun _ => by kernel_rfl
  have i1 : ∀ w, (Instr.index 92 (.agg #[wc B 0, wc B 1, wc B 2, wc B 3]) (.int .i64 1)).run Tryd.prog w = .ok (wc B 1) w := fun _ => by kernel_rfl
  have i2 : ∀ w, (Instr.index 92 (.agg #[wc B 0, wc B 1, wc B 2, wc B 3]) (.int .i64 2)).run Tryd.prog w = .ok (wc B 2) w := fun _ => by kernel_rfl
  have i3 : ∀ w, (Instr.index 92 (.agg #[wc B 0, wc B 1, wc B 2, wc B 3]) (.int .i64 3)).run Tryd.prog w = .ok (wc B 3) w := fun _ => by kernel_rfl
  go_enter Tryd.func64, Tryd.ntmps64
  go_wp2
  go_loopw [6] (fun i wr => ∃ k : Nat, k ≤ 4 ∧ i = .int .i64 k ∧ Hid (∀ x, x < 64 * k → B x = false) ∧ Below w.heap.size w wr) (fun i _ => 4 - (intOf i).toNat)
  case atStart => exact ⟨0, by omega, rfl, fun x hx => absurd hx (by omega), (Below.refl _ _).alloc (Nat.le_refl _) _⟩
  case round =>
    obtain ⟨k, hk, rfl, HA, hB⟩ := hrel
    by_cases hlt : k < 4
    · have ik : (Instr.index 92 (.agg #[wc B 0, wc B 1, wc B 2, wc B 3]) (.int .i64 k)).run Tryd.prog wr = .ok (wc B k) wr := by
        have : k = 0 ∨ k = 1 ∨ k = 2 ∨ k = 3 := by omega
        rcases this with rfl | rfl | rfl | rfl
        · exact i0 wr
        · exact i1 wr
        · exact i2 wr
        · exact i3 wr
      clear i0 i1 i2 i3
      have hltz : (k : Int) < 4 := by omega
      by_cases h0 : W B k = 0
      · have hz : (((W B k : Nat) : Int) != 0) = false := by simp [h0]
        have HS : Hid (∀ x, x < 64 * (k + 1) → B x = false) := fun x hx => by
          by_cases e : x < 64 * k
          · exact HA.out x e
          · have h := W_testBit B k (x - 64 * k)
            rw [h0, show 64 * k + (x - 64 * k) = x by omega] at h
            simp [show x - 64 * k < 64 by omega] at h
            exact h
        clear h0
        go_wp2
        go_roundw
        case rel => exact ⟨k + 1, by omega, by go_num, HS, hB⟩
        case measure => simp [intOf]; omega
      · have hz : (((W B k : Nat) : Int) != 0) = true := by simp [h0]
        have HT := tz_any (W B k) h0 (W_lt B k) wr (ht.below hB)
        have HT' : Hid (Calls Tryd.prog 72 #[.int .u64 ((W B k : Nat) : Int)] wr fun e w' => ∃ t : Nat, e = .returned (.int .i64 t) ∧ t < 64 ∧ (W B k).testBit t = true ∧ (∀ j, j < t → (W B k).testBit j = false) ∧ w' = wr) := HT
        clear HT h0
        go_wp2_with fail
        refine HT'.out.mono ?_
        rintro e w1 ⟨t, rfl, ht64, hb, hl, hw1⟩
        subst w1
        have HF : Hid (FirstB B (((k : Int) * 64) + (t : Int))) := .inr ⟨64 * k + t, by omega, by omega, by
            rw [W_testBit] at hb; simp [ht64] at hb; exact hb, fun y hy => by
            by_cases e : y < 64 * k
            · exact HA.out y e
            · have h := hl (y - 64 * k) (by omega)
              rw [W_testBit, show 64 * k + (y - 64 * k) = y by omega] at h
              simp [show y - 64 * k < 64 by omega] at h
              exact h⟩
        clear hb hl HT'
        go_wp2
        go_ret
        exact ⟨_, rfl, HF.out, hB⟩
    · clear i0 i1 i2 i3
      go_wp2
      go_ret
      exact ⟨-1, rfl, .inl ⟨rfl, fun x hx => HA.out x (by omega)⟩, hB⟩

set_option maxRecDepth 100000 in
set_option maxHeartbeats 1000000 in
theorem specSetFirst_any (a : Option Addr) (b off cap n : Nat) (L H : Nat → Int) (w : World) (hga : 0 < n → a = some ⟨b, off, none⟩) (hc : Sp w b off n L H) (hn : n ≤ 4194304) :
    Calls Tryd.prog 57 #[.slice a n cap] w fun e w' => ∃ r : Int, e = .returned (.int .i64 r) ∧ FirstB (hs n L H) r ∧ w' = w := by
  go_enter Tryd.func57, Tryd.ntmps57
  go_wp2
  go_loop [3] (fun i => ∃ (k : Nat), k ≤ 256 ∧ i = .int .i64 k ∧ Hid (∀ x, x < k → hs n L H x = false)) (fun i => 256 - (intOf i).toNat)
  case atStart => exact ⟨0, by omega, rfl, fun x hx => absurd hx (by omega)⟩
  case round =>
    obtain ⟨k, hk, rfl, HA⟩ := hrel
    by_cases hlt : k < 256
    · have hltz : (k : Int) < 256 := by omega
      have H1 := specSetHas_any a b off cap n L H k w hga hc hn
      by_cases hh : hasB n L H k = true
      · rw [hh] at H1
        have HF : Hid (FirstB (hs n L H) (k : Int)) := .inr ⟨k, hlt, rfl, hh, HA.out⟩
        have H1' : Hid (Calls Tryd.prog 60 #[.slice a n cap, .int .i64 k] w fun e w' => e = .returned (.bool true) ∧ w' = w) := H1
        clear H1 hh
        go_wp2_with fail
        refine H1'.out.mono ?_
        rintro e w1 ⟨rfl, hw1⟩
        subst w1
        go_wp2
        go_ret
        exact ⟨_, rfl, HF.out, rfl⟩
      · have hh' : hasB n L H k = false := Bool.eq_false_iff.2 hh
        rw [hh'] at H1
        have HS : Hid (∀ x, x < k + 1 → hs n L H x = false) := fun x hx => by
          by_cases e : x = k
          · rw [e]; exact hh'
          · exact HA.out x (by omega)
        have H1' : Hid (Calls Tryd.prog 60 #[.slice a n cap, .int .i64 k] w fun e w' => e = .returned (.bool false) ∧ w' = w) := H1
        clear H1 hh hh'
        go_wp2_with fail
        refine H1'.out.mono ?_
        rintro e w1 ⟨rfl, hw1⟩
        subst w1
        go_wp2
        go_round
        case rel => exact ⟨k + 1, by omega, by go_num, HS⟩
        case measure => simp [intOf]; omega
    · go_wp2
      go_ret
      exact ⟨-1, rfl, .inl ⟨rfl, fun x hx => HA.out x (by omega)⟩, rfl⟩

end Go.Proofs.YtolddecfibdblaaDoor

