/- What the laws that draw say of the longest piece, and the walk of the law FnMatchEnds. -/
import Derived.Test.YtdkdpdkmkabbaaaDoorDp
import Derived.Test.YtdkdpdkmkabbaaaDoorMs
import Derived.Test.YtdkdpdkmkabbaaaDoorTp
import Derived.Test.YtdkdpdkmkabbaaaDoorTq
namespace Go.Proofs.YtdkdpdkmkabbaaaDoor
open Go.RowKit
set_option linter.unusedVariables false
set_option linter.unusedSimpArgs false

/-- the empty text is like it just as it is told -/
theorem null_lk (S : Sh) : ∀ d, formB d S = true → nullR S = lkB S [] := by
  induction S using Sh.ind with
  | h kind n L H m K ih =>
    intro d h
    cases d with
    | zero => simp [formB] at h
    | succ d =>
      obtain ⟨hg, hk⟩ := form_kid h
      have hkid := good_kids hg
      have hkinds : kind = 1 ∨ kind = 2 ∨ kind = 3 ∨ kind = 4 ∨ kind = 5 ∨ kind = 6 ∨ kind = 7 := by
        unfold kidsOf at hkid
        split at hkid
        all_goals first
          | omega
          | skip
      rcases hkinds with rfl | rfl | rfl | rfl | rfl | rfl | rfl
      · rw [null_1, lk_1]; rfl
      · rw [null_2, lk_2]; rfl
      · obtain rfl : m = 2 := by have : kidsOf 3 = 2 := rfl
                                 omega
        rw [null_3, lk_3, ih 0 (by omega) d (hk 0 (by omega)), ih 1 (by omega) d (hk 1 (by omega))]
        simp [cutB]
      · obtain rfl : m = 2 := by have : kidsOf 4 = 2 := rfl
                                 omega
        rw [null_4, lk_4, ih 0 (by omega) d (hk 0 (by omega)), ih 1 (by omega) d (hk 1 (by omega))]
      · obtain rfl : m = 1 := by have : kidsOf 5 = 1 := rfl
                                 omega
        rw [null_5, lk_5]; rfl
      · obtain rfl : m = 2 := by have : kidsOf 6 = 2 := rfl
                                 omega
        rw [null_6, lk_6, ih 0 (by omega) d (hk 0 (by omega)), ih 1 (by omega) d (hk 1 (by omega))]
      · obtain rfl : m = 1 := by have : kidsOf 7 = 1 := rfl
                                 omega
        rw [null_7, lk_7, ih 0 (by omega) d (hk 0 (by omega))]
theorem null_piece {S : Sh} (hok : okR S = true) (t : List UInt8) (a : Nat) : pieceB S t a 0 = nullR S := by
  have h8 : formB 8 S = true := by have := hok; simp only [okR, Bool.and_eq_true] at this; exact this.1
  rw [null_lk S 8 h8, pieceB, List.take_zero]
theorem long_end {S : Sh} {s : ByteArray} (hok : okR S = true) (hs : s.size ≤ 12) : longR S s (s.size : Int) = if isNullR S = true then 0 else -1 := by
  rw [longR_yes hok hs (Nat.le_refl _), show s.size - s.size + 1 = 1 by omega, isNullR, hok, Bool.true_and]
  simp only [topI, null_piece hok]
  split <;> rfl
theorem long_all {S : Sh} {s : ByteArray} (hok : okR S = true) (hs : s.size ≤ 12) : longR S s 0 = (s.size : Int) ↔ isB S s = true := by
  have h0 := longR_yes (S := S) (s := s) (a := 0) hok hs (Nat.zero_le _)
  rw [show ((0 : Nat) : Int) = 0 from rfl] at h0
  have hp : pieceB S (tx s) 0 s.size = lkB S (tx s) := by rw [pieceB, List.drop_zero, List.take_of_length_le (by rw [← tx_size]; exact Nat.le_refl _)]
  rw [h0, show s.size - 0 + 1 = s.size + 1 by omega, topI, hp, isB, hok, Bool.true_and, show decide ((s.size : Int) ≤ 12) = true from decide_eq_true (by omega), Bool.true_and]
  constructor
  · intro h
    by_cases e : lkB S (tx s) = true
    · exact e
    · rw [if_neg e] at h
      have := (topI_lo (pieceB S (tx s) 0) s.size).2
      omega
  · intro h; rw [if_pos h]

set_option maxRecDepth 100000 in
set_option maxHeartbeats 8000000 in
theorem lawEnds (a : Option Addr) (n c bb off : Nat) (V : Nat → Nat) (w : World) (t : TypeId) (ea : Addr) (hE : Err w t ea) (hn : n ≤ 9223372036854775807) (hc : n ≤ c) (hcc : c ≤ 9223372036854775807) (ha : 0 < n → a = some ⟨bb, off, none⟩ ∧ bb < w.heap.size) (hV : ∀ i, i < n → V i ≤ 255 ∧ w.cell? ⟨bb, off + i, none⟩ = some (.int .u8 (V i : Int))) :
    Calls Tryd.prog 4 #[.slice a n c] w fun e w' => e = .returned (.bool true) ∧ Below w.heap.size w w' := by
  by_cases hbig : 1048576 < n
  · have hb : (1048576 : Int) < (n : Int) := by omega
    clear ha hV
    go_enter Tryd.func4, Tryd.ntmps4
    go_wp2_with fail
    go_ret
    exact ⟨rfl, Below.refl _ _⟩
  · have hb : ¬ (1048576 : Int) < (n : Int) := by omega
    have HD : Hid (Calls Tryd.prog 11 #[.slice a n c] w (DrawRes w)) := drawIs_any a n c bb off V w (by omega) hc hcc ha hV
    have HE : Hid (Err w t ea) := hE
    clear ha hV hE hbig
    go_enter Tryd.func4, Tryd.ntmps4
    go_wp2_with fail
    refine HD.out.mono ?_
    rintro e w1 ⟨S, M, s, rfl, hin1, hcS, hs13, hb1⟩
    obtain ⟨sa, sn, sc, ka, km, kc, es, ek⟩ := hin1.slices
    have HV : Hid (vx S M = .agg #[.int .i64 S.kind, .slice sa sn sc, .slice ka km kc]) := by rw [Hid, vx, es, ek]
    obtain ⟨W2, hW2⟩ : ∃ V, V = w1.alloc (.cells #[.int .i64 S.kind, .slice sa sn sc, .slice ka km kc] 26) := ⟨_, rfl⟩
    have hb2 : Below w1.heap.size w1 W2 := by rw [hW2]; exact below_new _ _
    have HB2 : Hid (Below w.heap.size w W2) := hb1.trans (hb2.mono hb1.size)
    have HX : Hid (∀ V, Below W2.heap.size W2 V → V.cell? ⟨w1.heap.size, 0, none⟩ = some (.int .i64 S.kind) ∧ V.cell? ⟨w1.heap.size, 1, none⟩ = some (.slice sa sn sc) ∧ V.cell? ⟨w1.heap.size, 2, none⟩ = some (.slice ka km kc)) := fun V hb => by
      have k : ∀ o v, W2.cell? ⟨w1.heap.size, o, none⟩ = some v → V.cell? ⟨w1.heap.size, o, none⟩ = some v := fun o v h => (hb.cell (p := ⟨w1.heap.size, o, none⟩) (World.block_lt_of_cell? _ _ h)).trans h
      refine ⟨k _ _ ?_, k _ _ ?_, k _ _ ?_⟩ <;> (rw [hW2]; simp [go_sem])
    have HIN : Hid (∀ V, Below W2.heap.size W2 V → In AnyB V S M) := fun V hb => ((hin1.below hb2).below hb).mono (fun _ _ => trivial)
    have HER : Hid (∀ V, Below W2.heap.size W2 V → Err V t ea) := fun V hb => (HE.out.below HB2.out).below hb
    have HIL : Hid (∀ x V, Below W2.heap.size W2 V → Calls Tryd.prog 6 #[.agg #[.int .i64 S.kind, .slice sa sn sc, .slice ka km kc], .string s, .int .i64 x] V fun e w' => e = .returned (.int .i64 (longR S s x)) ∧ Below V.heap.size V w') := fun x V hb => by
      have h := implMatchLong_any S M s x V t ea (HER.out V hb) (HIN.out V hb) (by omega)
      rwa [HV.out] at h
    have HSL : Hid (∀ x V, Below W2.heap.size W2 V → Calls Tryd.prog 7 #[.agg #[.int .i64 S.kind, .slice sa sn sc, .slice ka km kc], .string s, .int .i64 x] V fun e w' => e = .returned (.int .i64 (longR S s x)) ∧ Below V.heap.size V w') := fun x V hb => by
      have h := specMatchLong_any S M s x V (HIN.out V hb) (by omega)
      rwa [HV.out] at h
    have HOK : Hid (∀ V, Below W2.heap.size W2 V → Calls Tryd.prog 8 #[.agg #[.int .i64 S.kind, .slice sa sn sc, .slice ka km kc]] V fun e w' => e = .returned (.bool (okR S)) ∧ Below V.heap.size V w') := fun V hb => by
      have h := specRexOk_any S M V (HIN.out V hb) (by omega)
      rwa [HV.out] at h
    have HNU : Hid (∀ V, Below W2.heap.size W2 V → Calls Tryd.prog 10 #[.agg #[.int .i64 S.kind, .slice sa sn sc, .slice ka km kc]] V fun e w' => e = .returned (.bool (isNullR S)) ∧ Below V.heap.size V w') := fun V hb => by
      have h := implRexNull_any S M V t ea (HER.out V hb) (HIN.out V hb) (by omega)
      rwa [HV.out] at h
    have HIS : Hid (∀ (u : ByteArray) V, Below W2.heap.size W2 V → Calls Tryd.prog 9 #[.agg #[.int .i64 S.kind, .slice sa sn sc, .slice ka km kc], .string u] V fun e w' => e = .returned (.bool (isB S u)) ∧ Below V.heap.size V w') := fun u V hb => by
      have h := implMatchIs_any S M u V t ea (HER.out V hb) (HIN.out V hb) (by omega)
      rwa [HV.out] at h
    have HB22 : Hid (Below W2.heap.size W2 W2) := Below.refl _ _
    obtain ⟨x0, x1, x2⟩ := HX.out W2 HB22.out
    rw [hW2] at x0 x1 x2
    rw [HV.out]
    have hs13I : (s.size : Int) ≤ 13 := by omega
    have hs0I : (0 : Int) ≤ (s.size : Int) := by omega
    obtain ⟨E, hE⟩ : ∃ E, longR S s (s.size : Int) = E := ⟨_, rfl⟩
    obtain ⟨F, hF⟩ : ∃ F, longR S s 0 = F := ⟨_, rfl⟩
    have HIE := HIL.out (s.size : Int)
    have HIF := HIL.out 0
    have HSE := HSL.out (s.size : Int)
    have HSF := HSL.out 0
    rw [hE] at HIE HSE
    rw [hF] at HIF HSF
    have HG : Hid (Below w1.heap.size w1 W2) := hb2
    clear hin1 hcS es ek hb1 hb2 HIN HER HV HE
    have K1 : Hid (∀ V, Below W2.heap.size W2 V → Calls Tryd.prog 6 #[.agg #[.int .i64 S.kind, .slice sa sn sc, .slice ka km kc], .string s, .int .i64 (s.size : Int)] V fun e w' => e = .returned (.int .i64 E) ∧ Below V.heap.size V w') := HIE
    have K2 : Hid (∀ V, Below W2.heap.size W2 V → Calls Tryd.prog 6 #[.agg #[.int .i64 S.kind, .slice sa sn sc, .slice ka km kc], .string s, .int .i64 0] V fun e w' => e = .returned (.int .i64 F) ∧ Below V.heap.size V w') := HIF
    have K3 : Hid (∀ V, Below W2.heap.size W2 V → Calls Tryd.prog 7 #[.agg #[.int .i64 S.kind, .slice sa sn sc, .slice ka km kc], .string s, .int .i64 (s.size : Int)] V fun e w' => e = .returned (.int .i64 E) ∧ Below V.heap.size V w') := HSE
    have K4 : Hid (∀ V, Below W2.heap.size W2 V → Calls Tryd.prog 7 #[.agg #[.int .i64 S.kind, .slice sa sn sc, .slice ka km kc], .string s, .int .i64 0] V fun e w' => e = .returned (.int .i64 F) ∧ Below V.heap.size V w') := HSF
    have hlE := longR_lo S s (s.size : Int)
    have hlF := longR_lo S s 0
    rw [hE] at hlE
    rw [hF] at hlF
    clear HIE HIF HSE HSF HSL
    go_wp2_with fail
    rw [← hW2]
    clear hW2 x0 x1 x2
    have x0 := True.intro
    have x1 := True.intro
    have x2 := True.intro
    refine (K1.out _ HB22.out).mono ?_
    rintro e v3 ⟨rfl, hb3⟩
    have HB23 : Hid (Below W2.heap.size W2 v3) := HB22.out.trans (hb3.mono HB22.out.size)
    clear x0 x1 x2
    obtain ⟨x0, x1, x2⟩ := HX.out v3 HB23.out
    clear hb3
    go_wp2_with fail
    refine (K2.out _ HB23.out).mono ?_
    rintro e v4 ⟨rfl, hb4⟩
    have HB24 : Hid (Below W2.heap.size W2 v4) := HB23.out.trans (hb4.mono HB23.out.size)
    clear x0 x1 x2
    obtain ⟨x0, x1, x2⟩ := HX.out v4 HB24.out
    clear hb4
    go_wp2_with fail
    refine (K3.out _ HB24.out).mono ?_
    rintro e v5 ⟨rfl, hb5⟩
    have HB25 : Hid (Below W2.heap.size W2 v5) := HB24.out.trans (hb5.mono HB24.out.size)
    clear x0 x1 x2
    obtain ⟨x0, x1, x2⟩ := HX.out v5 HB25.out
    clear hb5
    go_wp2_with fail
    refine (K4.out _ HB25.out).mono ?_
    rintro e v6 ⟨rfl, hb6⟩
    have HB26 : Hid (Below W2.heap.size W2 v6) := HB25.out.trans (hb6.mono HB25.out.size)
    clear x0 x1 x2
    obtain ⟨x0, x1, x2⟩ := HX.out v6 HB26.out
    clear hb6
    go_wp2_with fail
    by_cases hgood : okR S = true ∧ s.size ≤ 12
    · obtain ⟨hok, hs12⟩ := hgood
      rw [hok] at HOK
      have hs12I : ¬ (12 : Int) < (s.size : Int) := by omega
      have hEE := long_end hok hs12
      have hFF := long_all hok hs12
      have hLL : longR S s ((s.size : Int) + 1) = -1 := longR_no (fun h => by omega)
      have HIS1 : Hid (∀ V, Below W2.heap.size W2 V → Calls Tryd.prog 9 #[.agg #[.int .i64 S.kind, .slice sa sn sc, .slice ka km kc], .string s] V fun e w' => e = .returned (.bool (isB S s)) ∧ Below V.heap.size V w') := fun V hb => HIS.out s V hb
      have K5 : Hid (∀ V, Below W2.heap.size W2 V → Calls Tryd.prog 6 #[.agg #[.int .i64 S.kind, .slice sa sn sc, .slice ka km kc], .string s, .int .i64 ((s.size : Int) + 1)] V fun e w' => e = .returned (.int .i64 (-1)) ∧ Below V.heap.size V w') := fun V hb => by
        have h := HIL.out ((s.size : Int) + 1) V hb
        rwa [hLL] at h
      rw [hE] at hEE
      rw [hF] at hFF
      clear hE hF hok HIL HIS hLL
      cases hnb : isNullR S
      all_goals cases hib : isB S s
      all_goals rw [hnb] at HNU hEE
      all_goals rw [hib] at HIS1 hFF
      all_goals simp at hEE
      all_goals subst hEE
      all_goals clear hnb hib hlE
      · have hFs : ¬ F = (s.size : Int) := fun h => by simpa using hFF.1 h
        have hFb : (F == (s.size : Int)) = false := by simpa using hFs
        clear hFF
        refine (HOK.out _ HB26.out).mono ?_
        rintro e v7 ⟨rfl, hb7⟩
        have HB27 : Hid (Below W2.heap.size W2 v7) := HB26.out.trans (hb7.mono HB26.out.size)
        clear x0 x1 x2
        obtain ⟨x0, x1, x2⟩ := HX.out v7 HB27.out
        clear hb7
        go_wp2_with fail
        refine (HNU.out _ HB27.out).mono ?_
        rintro e v8 ⟨rfl, hb8⟩
        have HB28 : Hid (Below W2.heap.size W2 v8) := HB27.out.trans (hb8.mono HB27.out.size)
        clear x0 x1 x2
        obtain ⟨x0, x1, x2⟩ := HX.out v8 HB28.out
        clear hb8
        go_wp2_with fail
        refine (HIS1.out _ HB28.out).mono ?_
        rintro e v9 ⟨rfl, hb9⟩
        have HB29 : Hid (Below W2.heap.size W2 v9) := HB28.out.trans (hb9.mono HB28.out.size)
        clear x0 x1 x2
        obtain ⟨x0, x1, x2⟩ := HX.out v9 HB29.out
        clear hb9
        go_wp2_with fail
        refine (K5.out _ HB29.out).mono ?_
        rintro e v10 ⟨rfl, hb10⟩
        have HB210 : Hid (Below W2.heap.size W2 v10) := HB29.out.trans (hb10.mono HB29.out.size)
        clear x0 x1 x2
        obtain ⟨x0, x1, x2⟩ := HX.out v10 HB210.out
        clear hb10
        go_wp2_with fail
        go_ret
        exact ⟨rfl, HB2.out.trans (HB210.out.mono HB2.out.size)⟩
      · obtain rfl : F = (s.size : Int) := hFF.2 rfl
        clear hFF
        refine (HOK.out _ HB26.out).mono ?_
        rintro e v7 ⟨rfl, hb7⟩
        have HB27 : Hid (Below W2.heap.size W2 v7) := HB26.out.trans (hb7.mono HB26.out.size)
        clear x0 x1 x2
        obtain ⟨x0, x1, x2⟩ := HX.out v7 HB27.out
        clear hb7
        go_wp2_with fail
        refine (HNU.out _ HB27.out).mono ?_
        rintro e v8 ⟨rfl, hb8⟩
        have HB28 : Hid (Below W2.heap.size W2 v8) := HB27.out.trans (hb8.mono HB27.out.size)
        clear x0 x1 x2
        obtain ⟨x0, x1, x2⟩ := HX.out v8 HB28.out
        clear hb8
        go_wp2_with fail
        refine (HIS1.out _ HB28.out).mono ?_
        rintro e v9 ⟨rfl, hb9⟩
        have HB29 : Hid (Below W2.heap.size W2 v9) := HB28.out.trans (hb9.mono HB28.out.size)
        clear x0 x1 x2
        obtain ⟨x0, x1, x2⟩ := HX.out v9 HB29.out
        clear hb9
        go_wp2_with fail
        refine (K5.out _ HB29.out).mono ?_
        rintro e v10 ⟨rfl, hb10⟩
        have HB210 : Hid (Below W2.heap.size W2 v10) := HB29.out.trans (hb10.mono HB29.out.size)
        clear x0 x1 x2
        obtain ⟨x0, x1, x2⟩ := HX.out v10 HB210.out
        clear hb10
        go_wp2_with fail
        go_ret
        exact ⟨rfl, HB2.out.trans (HB210.out.mono HB2.out.size)⟩
      · have hFs : ¬ F = (s.size : Int) := fun h => by simpa using hFF.1 h
        have hFb : (F == (s.size : Int)) = false := by simpa using hFs
        clear hFF
        refine (HOK.out _ HB26.out).mono ?_
        rintro e v7 ⟨rfl, hb7⟩
        have HB27 : Hid (Below W2.heap.size W2 v7) := HB26.out.trans (hb7.mono HB26.out.size)
        clear x0 x1 x2
        obtain ⟨x0, x1, x2⟩ := HX.out v7 HB27.out
        clear hb7
        go_wp2_with fail
        refine (HNU.out _ HB27.out).mono ?_
        rintro e v8 ⟨rfl, hb8⟩
        have HB28 : Hid (Below W2.heap.size W2 v8) := HB27.out.trans (hb8.mono HB27.out.size)
        clear x0 x1 x2
        obtain ⟨x0, x1, x2⟩ := HX.out v8 HB28.out
        clear hb8
        go_wp2_with fail
        refine (HIS1.out _ HB28.out).mono ?_
        rintro e v9 ⟨rfl, hb9⟩
        have HB29 : Hid (Below W2.heap.size W2 v9) := HB28.out.trans (hb9.mono HB28.out.size)
        clear x0 x1 x2
        obtain ⟨x0, x1, x2⟩ := HX.out v9 HB29.out
        clear hb9
        go_wp2_with fail
        refine (K5.out _ HB29.out).mono ?_
        rintro e v10 ⟨rfl, hb10⟩
        have HB210 : Hid (Below W2.heap.size W2 v10) := HB29.out.trans (hb10.mono HB29.out.size)
        clear x0 x1 x2
        obtain ⟨x0, x1, x2⟩ := HX.out v10 HB210.out
        clear hb10
        go_wp2_with fail
        go_ret
        exact ⟨rfl, HB2.out.trans (HB210.out.mono HB2.out.size)⟩
      · obtain rfl : F = (s.size : Int) := hFF.2 rfl
        clear hFF
        refine (HOK.out _ HB26.out).mono ?_
        rintro e v7 ⟨rfl, hb7⟩
        have HB27 : Hid (Below W2.heap.size W2 v7) := HB26.out.trans (hb7.mono HB26.out.size)
        clear x0 x1 x2
        obtain ⟨x0, x1, x2⟩ := HX.out v7 HB27.out
        clear hb7
        go_wp2_with fail
        refine (HNU.out _ HB27.out).mono ?_
        rintro e v8 ⟨rfl, hb8⟩
        have HB28 : Hid (Below W2.heap.size W2 v8) := HB27.out.trans (hb8.mono HB27.out.size)
        clear x0 x1 x2
        obtain ⟨x0, x1, x2⟩ := HX.out v8 HB28.out
        clear hb8
        go_wp2_with fail
        refine (HIS1.out _ HB28.out).mono ?_
        rintro e v9 ⟨rfl, hb9⟩
        have HB29 : Hid (Below W2.heap.size W2 v9) := HB28.out.trans (hb9.mono HB28.out.size)
        clear x0 x1 x2
        obtain ⟨x0, x1, x2⟩ := HX.out v9 HB29.out
        clear hb9
        go_wp2_with fail
        refine (K5.out _ HB29.out).mono ?_
        rintro e v10 ⟨rfl, hb10⟩
        have HB210 : Hid (Below W2.heap.size W2 v10) := HB29.out.trans (hb10.mono HB29.out.size)
        clear x0 x1 x2
        obtain ⟨x0, x1, x2⟩ := HX.out v10 HB210.out
        clear hb10
        go_wp2_with fail
        go_ret
        exact ⟨rfl, HB2.out.trans (HB210.out.mono HB2.out.size)⟩
    · have hE1 : E = -1 := by rw [← hE]; exact longR_no (fun h => hgood ⟨h.1, h.2.1⟩)
      have hF1 : F = -1 := by rw [← hF]; exact longR_no (fun h => hgood ⟨h.1, h.2.1⟩)
      subst hE1
      subst hF1
      clear hE hF hlE hlF
      cases hok : okR S
      · rw [hok] at HOK
        clear hgood hok
        refine (HOK.out _ HB26.out).mono ?_
        rintro e v7 ⟨rfl, hb7⟩
        have HB27 : Hid (Below W2.heap.size W2 v7) := HB26.out.trans (hb7.mono HB26.out.size)
        clear x0 x1 x2
        obtain ⟨x0, x1, x2⟩ := HX.out v7 HB27.out
        clear hb7
        go_wp2_with fail
        go_ret
        exact ⟨rfl, HB2.out.trans (HB27.out.mono HB2.out.size)⟩
      · rw [hok] at HOK
        have hs12I : (12 : Int) < (s.size : Int) := by have : ¬ s.size ≤ 12 := fun h => hgood ⟨hok, h⟩
                                                       omega
        clear hgood hok
        refine (HOK.out _ HB26.out).mono ?_
        rintro e v7 ⟨rfl, hb7⟩
        have HB27 : Hid (Below W2.heap.size W2 v7) := HB26.out.trans (hb7.mono HB26.out.size)
        clear x0 x1 x2
        obtain ⟨x0, x1, x2⟩ := HX.out v7 HB27.out
        clear hb7
        go_wp2_with fail
        go_ret
        exact ⟨rfl, HB2.out.trans (HB27.out.mono HB2.out.size)⟩
end Go.Proofs.YtdkdpdkmkabbaaaDoor

