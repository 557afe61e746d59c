/- the walk of the law of LexMeans -/
import Derived.Test.YtplpdikkkbiacaaGreatDoorDl
import Derived.Test.YtplpdikkkbiacaaGreatDoorXx
import Derived.Test.YtplpdikkkbiacaaGreatDoorXq
namespace Go.Proofs.YtplpdikkkbiacaaGreatDoor
open Go.RowKit
set_option linter.unusedVariables false
set_option linter.unusedSimpArgs false

theorem Marks.toBelow {lo hi B : Nat} {w w' : World} (h : Marks lo hi w w') (hB : B ≤ lo) (hs : lo ≤ w.heap.size) : Below B w w' := ⟨h.os, h.tape, h.output, h.size, fun k hk => h.far k (by omega) (.inl (by omega))⟩
/-- rules of one's own: as they are told, and where they lie -/
theorem ToRules.mine {n : Nat} {N : Nat → ByteArray} {K : Nat → Sh} {M : Nat → Mx} {w w' : World} (hr : w'.rowIs w.heap.size 52 (n * 4) (flat4 N K M)) (hi : ∀ i, i < n → In (fun k => w.heap.size < k ∧ Soft w' k) w' (K i) (M i)) : RulesIn (Mine w.heap.size w'.heap.size w') w' w.heap.size 0 n N K M :=
  fun i h1 => ⟨RuleAt.of_row hr h1, (hi i h1).mono (fun k hk => ⟨by omega, hk.2.lt, hk.2.frozen⟩)⟩
theorem own_atM {w w' : World} {base e size n : Nat} {v : Value} {xs : List Value} (h : w.ownsRow base e size v n xs) (hb : ∀ k, v.ownBlock = some k → w'.heap[k]? = w.heap[k]?) : w'.ownsRow base e size v n xs := by
  refine ⟨h.1, ?_⟩
  rcases h.2 with h0 | ⟨g, cap, cur, e, h1, h2, r⟩
  · exact .inl h0
  · exact .inr ⟨g, cap, cur, e, h1, (hb g (by rw [e]; rfl)).trans h2, r⟩

set_option maxRecDepth 100000 in
set_option maxHeartbeats 4000000 in
theorem lawLexMeans (a : Option Addr) (b off n cap : Nat) (N : Nat → ByteArray) (K : Nat → Sh) (M : Nat → Mx) (s : ByteArray) (w : World) (t : TypeId) (ea : Addr) (hE : Err w t ea) (hG : ErrTy w) (hga : 0 < n → a = some ⟨b, off, none⟩) (hR : RulesIn AnyB w b off n N K M)
    (hN : ∀ i, i < n → (N i).size ≤ maxLen) (hm : n ≤ 9223372036854775807) (hsz : s.size ≤ 9223372036854775807) :
    Calls Tryz.prog 3 #[.slice a n cap, .string s] w fun e w' => e = .returned (.bool true) ∧ Below w.heap.size w w' := by
  by_cases hbig : (1048576 : Int) < (s.size : Int)
  · clear hR hE hG hN
    go_enter Tryz.func3, Tryz.ntmps3
    go_wp2_with fail
    go_ret
    exact ⟨rfl, Below.refl _ _⟩
  have HZ : Hid (Calls Tryz.prog 4 #[.slice a n cap, .int .i64 1048576] w fun e w' => e = .returned (.int .i64 (leftOf 1048576 (n + cntS N K n))) ∧ Below w.heap.size w w') := szRuleS_any a b off n cap N K M 1048576 w hga hR hN hm (by omega) (by omega)
  by_cases hc : 1048576 < n + cntS N K n
  · rw [show leftOf 1048576 (n + cntS N K n) = -1 from leftOf_neg (by omega)] at HZ
    go_enter Tryz.func3, Tryz.ntmps3
    go_wp2_with fail
    refine HZ.out.mono ?_
    rintro e w1 ⟨rfl, hb1⟩
    go_wp2_with fail
    go_ret
    exact ⟨rfl, hb1⟩
  rw [show leftOf 1048576 (n + cntS N K n) = 1048576 - (n + cntS N K n : Nat) from leftOf_pos (by omega)] at HZ
  have hn1 : n ≤ 1048576 := by omega
  have hN1 : ∀ i, i < n → (N i).size ≤ 1048576 := fun i hi => by have := (cntS_at (N := N) (K := K) hi).1; omega
  have hc1 : ∀ i, i < n → cnt (K i) ≤ 1048576 := fun i hi => by have := (cntS_at (N := N) (K := K) hi).2; omega
  have HT : Hid (∀ w1, Below w.heap.size w w1 → Calls Tryz.prog 6 #[.slice a n cap] w1 (ToRules n N K w1)) := fun w1 hb => toRuleS_any a b off n cap N K M w1 hga (hR.below hb) hn1 hc1
  have HS : Hid (∀ (g : Nat) (M1 : Nat → Mx) w1, RulesIn AnyB w1 g 0 n N K M1 → Calls Tryz.prog 5 #[.slice (some ⟨g, 0, none⟩) n n, .string s] w1 (TokRes (MeansR n N K s) w1)) := fun g M1 w1 h => specLexMeans_any _ g 0 n n N K M1 s w1 (fun _ => rfl) h hn1 hN1 hc1 (by omega)
  have HI : Hid (∀ (g : Nat) (M1 : Nat → Mx) w1, Below w.heap.size w w1 → RulesIn AnyB w1 g 0 n N K M1 → Calls Tryz.prog 7 #[.slice (some ⟨g, 0, none⟩) n n, .string s] w1 (TokRes (MeansR n N K s) w1)) := fun g M1 w1 hb h => implLexMeans_any _ g 0 n n N K M1 s w1 t ea (hE.below hb) (hG.below hb) (fun _ => rfl) h hn1 hN1 hc1 (by omega)
  have HQ : Hid (∀ (g g' : Nat) (M1 M2 : Nat → Mx) w1, RulesIn AnyB w1 g 0 n N K M1 → RulesIn AnyB w1 g' 0 n N K M2 → Calls Tryz.prog 9 #[.slice (some ⟨g, 0, none⟩) n n, .slice (some ⟨g', 0, none⟩) n n] w1 fun e w' => e = .returned (.bool true) ∧ Below w1.heap.size w1 w') := fun g g' M1 M2 w1 h1 h2 => eqRuleS_same n N K M1 M2 hn1 hc1 _ g 0 n _ g' 0 n w1 (fun _ => rfl) h1 (fun _ => rfl) h2
  have HMK : Hid (∀ (lo hi g : Nat) (M1 : Nat → Mx) (w0 V : World), RulesIn (Mine lo hi w0) w0 g 0 n N K M1 → lo ≤ g → g < hi → (∀ o, w0.frozen? ⟨g, o, none⟩ = false) → Below w0.heap.size w0 V → hi ≤ w0.heap.size → Calls Tryz.prog 10 #[.slice (some ⟨g, 0, none⟩) n n, .int .i64 1] V fun e w' => (∃ k : Nat, e = .returned (.int .i64 k)) ∧ Marks lo hi V w') := fun lo hi g M1 w0 V h1 h2 h3 h4 h5 h6 =>
    markRuleS_any lo hi _ g 0 n n N K M1 V (fun _ => ⟨rfl, h2, h3⟩) (fun o => (h5.frozen (p := ⟨g, o, none⟩) (show g < w0.heap.size by omega)).trans (h4 o)) (fun i hi' => ⟨((h1 i hi').1.below h5), ((h1 i hi').2.below h5).mono (fun k hk => ⟨hk.1, hk.2.1, fun o => (h5.frozen (p := ⟨k, o, none⟩) (show k < w0.heap.size by have := hk.2.1; omega)).trans (hk.2.2 o)⟩)⟩) hn1 (by omega)
  have HUN : Hid (∀ L c L' c', MeansR n N K s L c → MeansR n N K s L' c' → L = L' ∧ c = c') := fun L c L' c' h h' => h.unique h'
  have HLN : Hid (∀ L c, MeansR n N K s L c → L.length ≤ 12) := fun L c h => by
    rcases h with ⟨h1, h2, h3⟩ | ⟨_, rfl, _⟩
    · have := h3.1.bd (bestV_finds h1.2.1 K s) (Nat.zero_le _); omega
    · simp
  obtain ⟨z, hz⟩ : ∃ z : Nat, n + cntS N K n = z := ⟨_, rfl⟩
  rw [hz] at HZ
  have hz0 : ¬ 1048576 - (z : Int) < 0 := by omega
  clear hz hc hn1 hN1 hc1 hE hG hR hN hm
  go_enter Tryz.func3, Tryz.ntmps3
  go_wp2_with fail
  refine HZ.out.mono ?_
  rintro e w1 ⟨rfl, hb1⟩
  go_wp2_with fail
  refine (HT.out _ hb1).mono ?_
  rintro e w2 ⟨M1, rfl, hr2, hi2, hb2⟩
  have hB2 := hb1.trans (hb2.mono hb1.size)
  have HR2 : Hid (RulesIn AnyB w2 w1.heap.size 0 n N K M1) := ToRules.rules hr2 hi2
  clear hr2 hi2
  go_wp2_with fail
  refine (HS.out _ _ _ HR2.out).mono ?_
  rintro e w3 ⟨vw, L, cw, rfl, hrw, hlw, hb3⟩
  have hB3 := hB2.trans (hb3.mono hB2.size)
  have HRW : Hid (MeansR n N K s L cw) := hrw
  have hL12 : L.length ≤ 12 := HLN.out L cw hrw
  have HLW : Hid (w3.ownsRow w2.heap.size 46 3 vw L.length (cellsT L)) := hlw
  have HLL : Hid (∀ k, vw.ownBlock = some k → k < w3.heap.size) := fun k e => (hlw.lt k e).2
  clear hlw hrw
  go_wp2_with fail
  refine (HT.out _ hB3).mono ?_
  rintro e w4 ⟨M2, rfl, hr4, hi4, hb4⟩
  have hB4 := hB3.trans (hb4.mono hB3.size)
  have HR4 : Hid (RulesIn AnyB w4 w3.heap.size 0 n N K M2) := ToRules.rules hr4 hi4
  have HMN : Hid (RulesIn (Mine w3.heap.size w4.heap.size w4) w4 w3.heap.size 0 n N K M2) := ToRules.mine hr4 hi4
  have HFZ : Hid (∀ o, w4.frozen? ⟨w3.heap.size, o, none⟩ = false) := fun o => hr4.frozen o
  have HS34 : Hid (w3.heap.size < w4.heap.size) := hr4.lt
  have HLW4 : Hid (w4.ownsRow w2.heap.size 46 3 vw L.length (cellsT L)) := own_belowT HLW.out hb4
  clear hr4 hi4
  go_wp2_with fail
  refine (HI.out _ _ _ hB4 HR4.out).mono ?_
  rintro e w6 ⟨vg, L', cg, rfl, hrg, hlg, hb6⟩
  obtain ⟨rfl, rfl⟩ := HUN.out _ _ _ _ hrg HRW.out
  have hB6 := hB4.trans (hb6.mono hB4.size)
  have HB46 : Hid (Below w4.heap.size w4 w6) := hb6
  have HLG : Hid (w6.ownsRow w4.heap.size 46 3 vg L'.length (cellsT L')) := hlg
  have HGG : Hid (∀ k, vg.ownBlock = some k → w4.heap.size ≤ k ∧ k < w6.heap.size) := fun k e => hlg.lt k e
  have HLW6 : Hid (w6.ownsRow w2.heap.size 46 3 vw L'.length (cellsT L')) := own_belowT HLW4.out hb6
  have HEQ6 := eqT_any w6 HLG.out HLW6.out (by omega)
  have hcc : ((cg : Int) != (cg : Int)) = false := by simp
  clear hlg hb6 hrg
  go_wp2_with fail
  refine HEQ6.mono ?_
  rintro e w7 ⟨rfl, hb7⟩
  have hB7 := hB6.trans (hb7.mono hB6.size)
  have HB47 : Hid (Below w4.heap.size w4 w7) := HB46.out.trans (hb7.mono HB46.out.size)
  have HB67 : Hid (Below w6.heap.size w6 w7) := hb7
  clear HEQ6 hb7
  go_wp2_with fail
  refine (HT.out _ hB7).mono ?_
  rintro e w7a ⟨M3, rfl, hr7, hi7, hb7a⟩
  have HR7 : Hid (RulesIn AnyB w7a w7.heap.size 0 n N K M3) := ToRules.rules hr7 hi7
  have HB47a : Hid (Below w4.heap.size w4 w7a) := HB47.out.trans (hb7a.mono HB47.out.size)
  have HB67a : Hid (Below w6.heap.size w6 w7a) := HB67.out.trans (hb7a.mono HB67.out.size)
  have HR3 : Hid (RulesIn AnyB w7a w3.heap.size 0 n N K M2) := HR4.out.below HB47a.out
  clear hr7 hi7 hb7a
  go_wp2_with fail
  refine (HQ.out _ _ _ _ _ HR3.out HR7.out).mono ?_
  rintro e w8 ⟨rfl, hb8⟩
  have HB48 : Hid (Below w4.heap.size w4 w8) := HB47a.out.trans (hb8.mono HB47a.out.size)
  have HB68 : Hid (Below w6.heap.size w6 w8) := HB67a.out.trans (hb8.mono HB67a.out.size)
  have HB8 : Hid (Below w.heap.size w w8) := hB4.trans (HB48.out.mono hB4.size)
  have HS8 : Hid (w6.heap.size ≤ w8.heap.size ∧ w4.heap.size ≤ w8.heap.size) := ⟨HB68.out.size, HB48.out.size⟩
  have HLG8 : Hid (w8.ownsRow w4.heap.size 46 3 vg L'.length (cellsT L')) := own_belowT HLG.out HB68.out
  have HLW8 : Hid (w8.ownsRow w2.heap.size 46 3 vw L'.length (cellsT L')) := own_belowT HLW6.out HB68.out
  have HMK8 := HMK.out w3.heap.size w4.heap.size w3.heap.size M2 w4 w8 HMN.out (Nat.le_refl _) HS34.out HFZ.out HB48.out (Nat.le_refl _)
  clear hb8
  go_wp2_with fail
  refine HMK8.mono ?_
  rintro e w9 ⟨⟨k, rfl⟩, hT⟩
  have HLG9 : Hid (w9.ownsRow w4.heap.size 46 3 vg L'.length (cellsT L')) := own_atM HLG8.out (fun k e => hT.far k (by have := HGG.out k e; have := HS8.out; omega) (.inr (by have := HGG.out k e; omega)))
  have HLW9 : Hid (w9.ownsRow w2.heap.size 46 3 vw L'.length (cellsT L')) := own_atM HLW8.out (fun k e => hT.far k (by have := HLL.out k e; have := HS34.out; have := HS8.out; omega) (.inl (by have := HLL.out k e; omega)))
  have HB9 : Hid (Below w.heap.size w w9) := HB8.out.trans (hT.toBelow hB3.size (by have := HS34.out; have := HS8.out; omega))
  have HEQ9 : Hid (Calls Tryz.prog 8 #[vg, vw] w9 fun e w' => e = .returned (.bool true) ∧ Below w9.heap.size w9 w') := eqT_any w9 HLG9.out HLW9.out (by omega)
  clear hT HMK8
  have hk0 : ¬ ((k : Int) < 0) := by omega
  go_wp2_with fail
  refine HEQ9.out.mono ?_
  rintro e w10 ⟨rfl, hb10⟩
  have HLG10 : Hid (w10.ownsRow w4.heap.size 46 3 vg L'.length (cellsT L')) := own_belowT HLG9.out hb10
  have HLW10 : Hid (w10.ownsRow w2.heap.size 46 3 vw L'.length (cellsT L')) := own_belowT HLW9.out hb10
  have HB10 : Hid (Below w.heap.size w w10) := HB9.out.trans (hb10.mono HB9.out.size)
  have HM10 : Hid (Calls Tryz.prog 11 #[vg, .int .i64 1] w10 fun e w' => e = .returned (.int .i64 (1 + 3 * (L'.length : Int))) ∧ w'.ownsRow w4.heap.size 46 3 vg L'.length (markL 1 (L'.length * 3)) ∧ w10.grownBy w' vg.ownBlock) := markT_any _ L'.length vg _ 1 w10 HLG10.out (by omega) (by omega) (by omega)
  clear hb10
  go_wp2_with fail
  refine HM10.out.mono ?_
  rintro e w11 ⟨rfl, hbl, hfr⟩
  obtain ⟨ym, hym⟩ : ∃ ym : Int, ym = 1 + 3 * (L'.length : Int) := ⟨_, rfl⟩
  have hq0 : ¬ ym < 0 := by omega
  have hyy : (ym != ym) = false := by simp
  have HG11 : Hid (w11.ownsRow w4.heap.size 46 3 vg L'.length (markL 1 (L'.length * 3))) := hbl
  have HLW11 : Hid (w11.ownsRow w2.heap.size 46 3 vw L'.length (cellsT L')) := own_atM HLW10.out (fun k e => hfr.block k (by have := (HLW10.out.lt k e).2; omega) (fun e2 => by have := HGG.out k e2.symm; have := HLL.out k e; have := HS34.out; omega))
  have HB11 : Hid (Below w.heap.size w w11) := HB10.out.grown hfr (by have := HB10.out.size; omega) (fun j hj => by have := HGG.out j hj; have := hB4.size; omega)
  have HHE : Hid (∀ V, Below w11.heap.size w11 V → Calls Tryz.prog 12 #[vg, .int .i64 1] V fun e w' => e = .returned (.int .i64 ym) ∧ Below V.heap.size V w') := fun V hV => (heldT_any _ L'.length vg 1 V (own_belowT HG11.out hV) (by omega) (by omega) (by omega)).mono fun e w' ⟨h1, h2⟩ => ⟨by rw [h1, hym], by rw [h2]; exact Below.refl _ _⟩
  have HH11 := HHE.out w11 (Below.refl _ _)
  rw [← hym]
  clear hbl hfr hym
  go_wp2_with fail
  refine HH11.mono ?_
  rintro e w12 ⟨rfl, hb12⟩
  have HB12 : Hid (Below w.heap.size w w12) := HB11.out.trans (hb12.mono HB11.out.size)
  have HB1112 : Hid (Below w11.heap.size w11 w12) := hb12
  have HA12 := HT.out _ HB12.out
  clear hb12 HH11
  go_wp2_with fail
  refine HA12.mono ?_
  rintro e w13 ⟨M4, rfl, hr13, hi13, hb13⟩
  have HB13 : Hid (Below w.heap.size w w13) := HB12.out.trans (hb13.mono HB12.out.size)
  have HB1113 : Hid (Below w11.heap.size w11 w13) := HB1112.out.trans (hb13.mono HB1112.out.size)
  have HH13 := HI.out _ _ w13 HB13.out (ToRules.rules hr13 hi13)
  clear hb13 HA12 hr13 hi13
  go_wp2_with fail
  refine HH13.mono ?_
  rintro e w14 ⟨vh, L2, ch, rfl, hrh, hlh, hb14⟩
  obtain ⟨rfl, rfl⟩ := HUN.out _ _ _ _ hrh HRW.out
  have HB14 : Hid (Below w.heap.size w w14) := HB13.out.trans (hb14.mono HB13.out.size)
  have HB1114 : Hid (Below w11.heap.size w11 w14) := HB1113.out.trans (hb14.mono HB1113.out.size)
  have HEQ14 := eqT_any w14 hlh (own_belowT HLW11.out HB1114.out) (by omega)
  clear hlh hb14 HH13 hrh
  go_wp2_with fail
  refine HEQ14.mono ?_
  rintro e w15 ⟨rfl, hb15⟩
  have HB15 : Hid (Below w.heap.size w w15) := HB14.out.trans (hb15.mono HB14.out.size)
  have HH15 := HHE.out w15 (HB1114.out.trans (hb15.mono HB1114.out.size))
  clear hb15 HEQ14
  go_wp2_with fail
  refine HH15.mono ?_
  rintro e w16 ⟨rfl, hb16⟩
  have HB16 : Hid (Below w.heap.size w w16) := HB15.out.trans (hb16.mono HB15.out.size)
  clear hb16 HH15
  go_wp2_with fail
  go_ret
  exact ⟨rfl, HB16.out⟩
end Go.Proofs.YtplpdikkkbiacaaGreatDoor

