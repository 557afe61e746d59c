/- the walk of the law of RulesSame -/
import Derived.Test.YtkjfhlfakoopnaaUm
namespace Go.Proofs.Ytkjfhlfakoopnaa
open Go.RowKit
set_option linter.unusedVariables false
set_option linter.unusedSimpArgs false

theorem ToRules.soft {n : Nat} {N : Nat → ByteArray} {K : Nat → Sh} {M : Nat → Mx} {w : World} {g g0 : Nat} (h : w.rowIs g 40 (n * 4) (flat4 N K M)) (hi : ∀ i, i < n → In (fun k => g0 < k ∧ Soft w k) w (K i) (M i)) : RulesIn (Soft w) w g 0 n N K M :=
  fun i h1 => ⟨RuleAt.of_row h h1, (hi i h1).mono (fun _ h => h.2)⟩
theorem RulesIn.soft {w w' : World} {b off n : Nat} {N : Nat → ByteArray} {K : Nat → Sh} {M : Nat → Mx} (h : RulesIn (Soft w) w b off n N K M) (hb : Below w.heap.size w w') : RulesIn (Soft w') w' b off n N K M :=
  fun i hi => ⟨(h i hi).1.below hb, (h i hi).2.soft hb⟩
theorem cntS_at' {N : Nat → ByteArray} {K : Nat → Sh} {n i : Nat} (h : i < n) : cnt (K i) ≤ cntS N K n := by
  have := sumN_at (f := fun i => cntU (N i) (K i)) h
  simp only [cntU] at this
  have e : cntS N K n = sumN (fun i => (N i).size + cnt (K i)) n := rfl
  omega

set_option maxRecDepth 100000 in
set_option maxHeartbeats 2000000 in
theorem lawRulesSame (a : Option Addr) (b off n cap : Nat) (N : Nat → ByteArray) (K : Nat → Sh) (M : Nat → Mx) (a' : Option Addr) (b' off' m cap' : Nat) (N' : Nat → ByteArray) (K' : Nat → Sh) (M' : Nat → Mx) (w : World)
    (hga : 0 < n → a = some ⟨b, off, none⟩) (hR : RulesIn AnyB w b off n N K M) (hN : ∀ i, i < n → (N i).size ≤ maxLen) (hn : n ≤ 9223372036854775807)
    (hga' : 0 < m → a' = some ⟨b', off', none⟩) (hR' : RulesIn AnyB w b' off' m N' K' M') (hN' : ∀ i, i < m → (N' i).size ≤ maxLen) (hm : m ≤ 9223372036854775807) :
    Calls Try.prog 3 #[.slice a n cap, .slice a' m cap'] w fun e w' => e = .returned (.bool true) ∧ Below w.heap.size w w' := by
  have HZ : Hid (Calls Try.prog 4 #[.slice a n cap, .int .i64 1048576] w fun e w' => e = .returned (.int .i64 (leftOf 1048576 (n + cntS N K n))) ∧ Below w.heap.size w w') := szRuleS_any a b off n cap N K M 1048576 w hga hR hN hn (by omega) (by omega)
  by_cases hc : 1048576 < n + cntS N K n
  · rw [show leftOf 1048576 (n + cntS N K n) = -1 from leftOf_neg (by omega)] at HZ
    clear hR hR' hN hN'
    go_enter Try.func3, Try.ntmps3
    go_wp2_with fail
    refine HZ.out.mono ?_
    rintro e w1 ⟨rfl, hb1⟩
    go_wp2_with fail
    go_ret
    exact ⟨rfl, hb1⟩
  · rw [show leftOf 1048576 (n + cntS N K n) = 1048576 - (n + cntS N K n : Nat) from leftOf_pos (by omega)] at HZ
    obtain ⟨z, hz⟩ : ∃ z : Nat, n + cntS N K n = z := ⟨_, rfl⟩
    have hz0 : ¬ 1048576 - (z : Int) < 0 := by omega
    have HZ2 : Hid (∀ w1, Below w.heap.size w w1 → Calls Try.prog 4 #[.slice a' m cap', .int .i64 (1048576 - (z : Int))] w1 fun e w' => e = .returned (.int .i64 (leftOf (1048576 - (z : Int)) (m + cntS N' K' m))) ∧ Below w1.heap.size w1 w') := fun w1 hb => szRuleS_any a' b' off' m cap' N' K' M' _ w1 hga' (hR'.below hb) hN' hm (by omega) (by omega)
    by_cases hc2 : 1048576 - (z : Int) < (m + cntS N' K' m : Nat)
    · rw [show leftOf (1048576 - (z : Int)) (m + cntS N' K' m) = -1 from leftOf_neg hc2] at HZ2
      rw [hz] at HZ
      clear hR hR' hN hN' hc2 hc hz
      go_enter Try.func3, Try.ntmps3
      go_wp2_with fail
      refine HZ.out.mono ?_
      rintro e w1 ⟨rfl, hb1⟩
      go_wp2_with fail
      refine (HZ2.out _ hb1).mono ?_
      rintro e w2 ⟨rfl, hb2⟩
      go_wp2_with fail
      go_ret
      exact ⟨rfl, hb1.trans (hb2.mono hb1.size)⟩
    · rw [show leftOf (1048576 - (z : Int)) (m + cntS N' K' m) = 1048576 - (z : Int) - (m + cntS N' K' m : Nat) from leftOf_pos hc2] at HZ2
      have hn1 : n ≤ 1048576 := by omega
      have hm1 : m ≤ 1048576 := by omega
      have hc1 : ∀ i, i < n → cnt (K i) ≤ 1048576 := fun i hi => by have := cntS_at' (N := N) (K := K) hi; omega
      have hc1' : ∀ i, i < m → cnt (K' i) ≤ 1048576 := fun i hi => by have := cntS_at' (N := N') (K := K') hi; omega
      obtain ⟨y, hy⟩ : ∃ y : Nat, m + cntS N' K' m = y := ⟨_, rfl⟩
      rw [hy] at HZ2 hc2
      rw [hz] at HZ
      have HT : Hid (∀ w1, Below w.heap.size w w1 → Calls Try.prog 6 #[.slice a n cap] w1 (ToRules n N K w1)) := fun w1 hb => toRuleS_any a b off n cap N K M w1 hga (hR.below hb) hn1 hc1
      have HU : Hid (∀ w1, Below w.heap.size w w1 → Calls Try.prog 6 #[.slice a' m cap'] w1 (ToRules m N' K' w1)) := fun w1 hb => toRuleS_any a' b' off' m cap' N' K' M' w1 hga' (hR'.below hb) hm1 hc1'
      have HS : Hid (∀ (g g' : Nat) (M1 M2 : Nat → Mx) w1, RulesIn (Soft w1) w1 g 0 n N K M1 → RulesIn (Soft w1) w1 g' 0 m N' K' M2 → Calls Try.prog 5 #[.slice (some ⟨g, 0, none⟩) n n, .slice (some ⟨g', 0, none⟩) m m] w1 (SameRes n N K m N' K' w1)) := fun g g' M1 M2 w1 h h' => specRulesSame_any _ g 0 n n N K M1 _ g' 0 m m N' K' M2 w1 (fun _ => rfl) h.any hn1 hc1 (fun _ => rfl) h'.any hm1 hc1'
      have HI : Hid (∀ (g g' : Nat) (M1 M2 : Nat → Mx) w1, RulesIn (Soft w1) w1 g 0 n N K M1 → RulesIn (Soft w1) w1 g' 0 m N' K' M2 → Calls Try.prog 7 #[.slice (some ⟨g, 0, none⟩) n n, .slice (some ⟨g', 0, none⟩) m m] w1 (SameRes n N K m N' K' w1)) := fun g g' M1 M2 w1 h h' => implRulesSame_any _ g 0 n n N K M1 _ g' 0 m m N' K' M2 w1 (fun _ => rfl) h hn1 hc1 (fun _ => rfl) h' hm1 hc1'
      have HQ : Hid (∀ (g g' : Nat) (M1 M2 : Nat → Mx) w1, RulesIn (Soft w1) w1 g 0 n N K M1 → RulesIn (Soft w1) w1 g' 0 n N K M2 → Calls Try.prog 8 #[.slice (some ⟨g, 0, none⟩) n n, .slice (some ⟨g', 0, none⟩) n n] w1 fun e w' => e = .returned (.bool true) ∧ Below w1.heap.size w1 w') := fun g g' M1 M2 w1 h1 h2 => eqRuleS_same n N K M1 M2 hn1 hc1 _ g 0 n _ g' 0 n w1 (fun _ => rfl) h1.any (fun _ => rfl) h2.any
      have HQ' : Hid (∀ (g g' : Nat) (M1 M2 : Nat → Mx) w1, RulesIn (Soft w1) w1 g 0 m N' K' M1 → RulesIn (Soft w1) w1 g' 0 m N' K' M2 → Calls Try.prog 8 #[.slice (some ⟨g, 0, none⟩) m m, .slice (some ⟨g', 0, none⟩) m m] w1 fun e w' => e = .returned (.bool true) ∧ Below w1.heap.size w1 w') := fun g g' M1 M2 w1 h1 h2 => eqRuleS_same m N' K' M1 M2 hm1 hc1' _ g 0 m _ g' 0 m w1 (fun _ => rfl) h1.any (fun _ => rfl) h2.any
      have hz1 : ¬ 1048576 - (z : Int) - (y : Int) < 0 := by omega
      clear hR hR' hN hN' hc2 hc hz hy hn1 hm1 hc1 hc1' hga hga' hn hm
      go_enter Try.func3, Try.ntmps3
      go_wp2_with fail
      refine HZ.out.mono ?_
      rintro e w1 ⟨rfl, hb1⟩
      go_wp2_with fail
      refine (HZ2.out _ hb1).mono ?_
      rintro e w2 ⟨rfl, hb2⟩
      have hB2 := hb1.trans (hb2.mono hb1.size)
      go_wp2_with fail
      refine (HT.out _ hB2).mono ?_
      rintro e w3 ⟨M1, rfl, hr3, hi3, hb3⟩
      have hB3 := hB2.trans (hb3.mono hB2.size)
      have HR3 : Hid (RulesIn (Soft w3) w3 w2.heap.size 0 n N K M1) := ToRules.soft hr3 hi3
      clear hr3 hi3
      go_wp2_with fail
      refine (HU.out _ hB3).mono ?_
      rintro e w4 ⟨M2, rfl, hr4, hi4, hb4⟩
      have hB4 := hB3.trans (hb4.mono hB3.size)
      have HR4 : Hid (RulesIn (Soft w4) w4 w3.heap.size 0 m N' K' M2) := ToRules.soft hr4 hi4
      clear hr4 hi4
      go_wp2_with fail
      refine (HS.out _ _ _ _ _ (HR3.out.soft hb4) HR4.out).mono ?_
      rintro e w5 ⟨ok, rfl, hok, hb5⟩
      have hB5 := hB4.trans (hb5.mono hB4.size)
      have HOK : Hid (ok = true ↔ SameU n N K m N' K') := hok
      clear hok HR3 HR4
      go_wp2_with fail
      refine (HT.out _ hB5).mono ?_
      rintro e w6 ⟨M3, rfl, hr6, hi6, hb6⟩
      have hB6 := hB5.trans (hb6.mono hB5.size)
      have HR6 : Hid (RulesIn (Soft w6) w6 w5.heap.size 0 n N K M3) := ToRules.soft hr6 hi6
      clear hr6 hi6
      go_wp2_with fail
      refine (HU.out _ hB6).mono ?_
      rintro e w7 ⟨M4, rfl, hr7, hi7, hb7⟩
      have hB7 := hB6.trans (hb7.mono hB6.size)
      have HR7 : Hid (RulesIn (Soft w7) w7 w6.heap.size 0 m N' K' M4) := ToRules.soft hr7 hi7
      have HR67 : Hid (RulesIn (Soft w7) w7 w5.heap.size 0 n N K M3) := HR6.out.soft hb7
      clear hr7 hi7 HR6
      go_wp2_with fail
      refine (HI.out _ _ _ _ _ HR67.out HR7.out).mono ?_
      rintro e w8 ⟨ok2, rfl, hok2, hb8⟩
      have hB8 := hB7.trans (hb8.mono hB7.size)
      obtain rfl : ok2 = ok := by
        rw [Bool.eq_iff_iff, hok2, HOK.out]
      clear hok2
      have HX8 : Hid (RulesIn (Soft w8) w8 w5.heap.size 0 n N K M3) := HR67.out.soft hb8
      have HY8 : Hid (RulesIn (Soft w8) w8 w6.heap.size 0 m N' K' M4) := HR7.out.soft hb8
      have hoo : (ok2 != ok2) = false := by simp
      clear HR67 HR7
      go_wp2_with fail
      refine (HT.out _ hB8).mono ?_
      rintro e w9 ⟨M5, rfl, hr9, hi9, hb9⟩
      have hB9 := hB8.trans (hb9.mono hB8.size)
      have HR9 : Hid (RulesIn (Soft w9) w9 w8.heap.size 0 n N K M5) := ToRules.soft hr9 hi9
      have HX9 : Hid (RulesIn (Soft w9) w9 w5.heap.size 0 n N K M3) := HX8.out.soft hb9
      have HY9 : Hid (RulesIn (Soft w9) w9 w6.heap.size 0 m N' K' M4) := HY8.out.soft hb9
      clear hr9 hi9 HX8 HY8
      go_wp2_with fail
      refine (HQ.out _ _ _ _ _ HX9.out HR9.out).mono ?_
      rintro e w10 ⟨rfl, hb10⟩
      have hB10 := hB9.trans (hb10.mono hB9.size)
      have HY10 : Hid (RulesIn (Soft w10) w10 w6.heap.size 0 m N' K' M4) := HY9.out.soft hb10
      clear HX9 HY9 HR9
      go_wp2_with fail
      refine (HU.out _ hB10).mono ?_
      rintro e w11 ⟨M6, rfl, hr11, hi11, hb11⟩
      have hB11 := hB10.trans (hb11.mono hB10.size)
      have HR11 : Hid (RulesIn (Soft w11) w11 w10.heap.size 0 m N' K' M6) := ToRules.soft hr11 hi11
      have HY11 : Hid (RulesIn (Soft w11) w11 w6.heap.size 0 m N' K' M4) := HY10.out.soft hb11
      clear hr11 hi11 HY10
      go_wp2_with fail
      refine (HQ'.out _ _ _ _ _ HY11.out HR11.out).mono ?_
      rintro e w12 ⟨rfl, hb12⟩
      go_wp2_with fail
      go_ret
      exact ⟨rfl, hB11.trans (hb12.mono hB11.size)⟩
end Go.Proofs.Ytkjfhlfakoopnaa

