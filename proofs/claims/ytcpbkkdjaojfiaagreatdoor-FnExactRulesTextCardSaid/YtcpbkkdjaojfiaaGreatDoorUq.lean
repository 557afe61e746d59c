/- the walk of the law of RulesText -/
import Derived.Test.YtcpbkkdjaojfiaaGreatDoorUp
namespace Go.Proofs.YtcpbkkdjaojfiaaGreatDoor
open Go.RowKit
set_option linter.unusedVariables false
set_option linter.unusedSimpArgs false

set_option maxRecDepth 100000 in
set_option maxHeartbeats 2000000 in
theorem lawRulesText (a : Option Addr) (b off n cap : Nat) (N : Nat → ByteArray) (K : Nat → Sh) (M : Nat → Mx) (w : World) (t : TypeId) (ea : Addr) (hE : Err w t ea) (hG : ErrTy w) (hP : Tab w.heap.size w) (hga : 0 < n → a = some ⟨b, off, none⟩) (hR : RulesIn AnyB w b off n N K M)
    (hN : ∀ i, i < n → (N i).size ≤ maxLen) (hm : n ≤ 9223372036854775807) :
    Calls Tryz.prog 3 #[.slice a n cap] w fun e w' => e = .returned (.bool true) ∧ Below w.heap.size w w' := by
  have HZ : Hid (Calls Tryz.prog 4 #[.slice a n cap, .int .i64 1048576] w fun e w' => e = .returned (.int .i64 (leftOf 1048576 (n + cntS N K n))) ∧ Below w.heap.size w w') := szRuleS_any a b off n cap N K M 1048576 w hga hR hN hm (by omega) (by omega)
  by_cases hc : 1048576 < n + cntS N K n
  · rw [show leftOf 1048576 (n + cntS N K n) = -1 from leftOf_neg (by omega)] at HZ
    go_enter Tryz.func3, Tryz.ntmps3
    go_wp2_with fail
    refine HZ.out.mono ?_
    rintro e w1 ⟨rfl, hb1⟩
    go_wp2_with fail
    go_ret
    exact ⟨rfl, hb1⟩
  · rw [show leftOf 1048576 (n + cntS N K n) = 1048576 - (n + cntS N K n : Nat) from leftOf_pos (by omega)] at HZ
    have hn1 : n ≤ 1048576 := by omega
    have hN1 : ∀ i, i < n → (N i).size ≤ 1048576 := fun i hi => by have := (cntS_at (N := N) (K := K) hi).1; omega
    have hc1 : ∀ i, i < n → cnt (K i) ≤ 1048576 := fun i hi => by have := (cntS_at (N := N) (K := K) hi).2; omega
    have HT : Hid (∀ w1, Below w.heap.size w w1 → Calls Tryz.prog 6 #[.slice a n cap] w1 (ToRules n N K w1)) := fun w1 hb => toRuleS_any a b off n cap N K M w1 hga (hR.below hb) hn1 hc1
    have HS : Hid (∀ (g : Nat) (M1 : Nat → Mx) w1, RulesIn AnyB w1 g 0 n N K M1 → Calls Tryz.prog 5 #[.slice (some ⟨g, 0, none⟩) n n] w1 (TextRes n N K w1)) := fun g M1 w1 h => specRulesText_any _ g 0 n n N K M1 w1 (fun _ => rfl) h hn1 hN1 hc1
    have HI : Hid (∀ (g : Nat) (M1 : Nat → Mx) w1, Below w.heap.size w w1 → RulesIn AnyB w1 g 0 n N K M1 → Calls Tryz.prog 7 #[.slice (some ⟨g, 0, none⟩) n n] w1 (TextRes n N K w1)) := fun g M1 w1 hb h => implRulesText_any _ g 0 n n N K M1 w1 t ea (hE.below hb) (hG.below hb) ((hP.on hb).up hb.size) (fun _ => rfl) h hn1 hN1 hc1
    have HQ : Hid (∀ (g g' : Nat) (M1 M2 : Nat → Mx) w1, RulesIn AnyB w1 g 0 n N K M1 → RulesIn AnyB w1 g' 0 n N K M2 → Calls Tryz.prog 8 #[.slice (some ⟨g, 0, none⟩) n n, .slice (some ⟨g', 0, none⟩) n n] w1 fun e w' => e = .returned (.bool true) ∧ Below w1.heap.size w1 w') := fun g g' M1 M2 w1 h1 h2 => eqRuleS_same n N K M1 M2 hn1 hc1 _ g 0 n _ g' 0 n w1 (fun _ => rfl) h1 (fun _ => rfl) h2
    obtain ⟨z, hz⟩ : ∃ z : Nat, n + cntS N K n = z := ⟨_, rfl⟩
    rw [hz] at HZ
    have hz0 : ¬ 1048576 - (z : Int) < 0 := by omega
    clear hz hc hn1 hN1 hc1 hE hG hP hR hN hm
    go_enter Tryz.func3, Tryz.ntmps3
    go_wp2_with fail
    refine HZ.out.mono ?_
    rintro e w1 ⟨rfl, hb1⟩
    go_wp2_with fail
    refine (HT.out _ hb1).mono ?_
    rintro e w2 ⟨M1, rfl, hr2, hi2, hb2⟩
    have hB2 := hb1.trans (hb2.mono hb1.size)
    have HR2 : Hid (RulesIn AnyB w2 w1.heap.size 0 n N K M1) := ToRules.rules hr2 hi2
    clear hr2 hi2
    go_wp2_with fail
    refine (HS.out _ _ _ HR2.out).mono ?_
    rintro e w3 ⟨s, rfl, hs1, hs2, hb3⟩
    have HS1 : Hid (RulesGood n N K → tx s = textU N K n) := hs1
    have HS2 : Hid (¬ RulesGood n N K → tx s = []) := hs2
    clear hs1 hs2
    have hB3 := hB2.trans (hb3.mono hB2.size)
    go_wp2_with fail
    refine (HT.out _ hB3).mono ?_
    rintro e w4 ⟨M2, rfl, hr4, hi4, hb4⟩
    have hB4 := hB3.trans (hb4.mono hB3.size)
    have HR4 : Hid (RulesIn AnyB w4 w3.heap.size 0 n N K M2) := ToRules.rules hr4 hi4
    clear hr4 hi4
    go_wp2_with fail
    refine (HI.out _ _ _ hB4 HR4.out).mono ?_
    rintro e w5 ⟨s2, rfl, hs1, hs2, hb5⟩
    obtain rfl : s2 = s := by
      refine ByteArray.ext (Array.toList_inj.1 ?_)
      show tx s2 = tx s
      by_cases hg : RulesGood n N K
      · rw [hs1 hg, HS1.out hg]
      · rw [hs2 hg, HS2.out hg]
    clear hs1 hs2
    have hB5 := hB4.trans (hb5.mono hB4.size)
    have HR5 : Hid (RulesIn AnyB w5 w3.heap.size 0 n N K M2) := HR4.out.below hb5
    have hoo : (s2.toList != s2.toList) = false := by simp
    have hoo2 : (s2.toList == s2.toList) = true := by simp
    go_wp2_with fail
    refine (HT.out _ hB5).mono ?_
    rintro e w6 ⟨M3, rfl, hr6, hi6, hb6⟩
    have HR6 : Hid (RulesIn AnyB w6 w5.heap.size 0 n N K M3) := ToRules.rules hr6 hi6
    have HR7 : Hid (RulesIn AnyB w6 w3.heap.size 0 n N K M2) := HR5.out.below hb6
    have hB6 := hB5.trans (hb6.mono hB5.size)
    clear hr6 hi6
    go_wp2_with fail
    refine (HQ.out _ _ _ _ _ HR7.out HR6.out).mono ?_
    rintro e w7 ⟨rfl, hb7⟩
    go_wp2_with fail
    go_ret
    exact ⟨rfl, hB6.trans (hb7.mono hB6.size)⟩
end Go.Proofs.YtcpbkkdjaojfiaaGreatDoor

