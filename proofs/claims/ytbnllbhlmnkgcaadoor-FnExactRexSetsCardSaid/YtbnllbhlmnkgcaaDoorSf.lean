/- the walk of the law of RexSets -/
import Derived.Test.YtbnllbhlmnkgcaaDoorSe
namespace Go.Proofs.YtbnllbhlmnkgcaaDoor
open Go.RowKit Go.Shelf
set_option linter.unusedVariables false
set_option linter.unusedSimpArgs false

theorem softF {w : World} {k : Nat} (h : Soft w k) (o : Nat) : w.frozen? ⟨k, o, none⟩ = false := by
  obtain ⟨cs, t, h⟩ := h
  simp [World.frozen?, h]

set_option maxRecDepth 100000 in
set_option maxHeartbeats 2000000 in
theorem law6 (S : Sh) (M : Mx) (w : World) (t : TypeId) (ea : Addr) (hE : Err w t ea) (hT : In AnyB w S M) :
    Calls Tryd.prog 9 #[vx S M] w fun e w' => e = .returned (.bool true) ∧ Below w.heap.size w w' := by
  obtain ⟨a, n, c, a', m, c', hv⟩ := hT.value
  have HZ : Hid (∀ w1, Below w.heap.size w w1 → Calls Tryd.prog 30 #[vx S M, .int .i64 1048576] w1 fun e w' => e = .returned (.int .i64 (leftOf 1048576 (cnt S))) ∧ Below w1.heap.size w1 w') := fun w1 hb => szRex_any S M 1048576 w1 (hT.below hb) (by omega) (by omega)
  have hb0 : Below w.heap.size w (w.alloc (.cells #[.int .i64 S.kind, .slice a n c, .slice a' m c'] 46)) := (Below.refl _ _).alloc (Nat.le_refl _) _
  by_cases hc : 1048576 < cnt S
  · rw [leftOf_lt hc] at HZ
    rw [hv] at HZ ⊢
    clear hv
    go_enter Tryd.func9, Tryd.ntmps9
    go_wp2_with fail
    refine (HZ.out _ hb0).mono ?_
    rintro e w1 ⟨rfl, hb1⟩
    go_wp2_with fail
    go_ret
    exact ⟨rfl, hb0.trans (hb1.mono hb0.size)⟩
  · rw [show leftOf 1048576 (cnt S) = 1048576 - (cnt S : Int) from leftOf_pos (by omega)] at HZ
    have hcnt : cnt S ≤ 1048576 := by omega
    have H10 : Hid (∀ w1, Below w.heap.size w w1 → Calls Tryd.prog 31 #[vx S M] w1 (ToRes S w1)) := fun w1 hb => toRex_any S M w1 (hT.below hb) hcnt
    have H9 : Hid (∀ M1 w1, In AnyB w1 S M1 → Calls Tryd.prog 37 #[vx S M1] w1 (SpRes (setsR S) w1)) := fun M1 w1 h => specRexSets_any S M1 w1 h hcnt
    have H11 : Hid (∀ M1 w1, Below w.heap.size w w1 → In AnyB w1 S M1 → Calls Tryd.prog 38 #[vx S M1] w1 (SetsRes S w1)) := fun M1 w1 hb h => implRexSets_any S M1 w1 t ea (hE.below hb) h hcnt
    have H20 : Hid (∀ (lo hi : Nat) M1 w1, In (Mine lo hi w1) w1 S M1 → Calls Tryd.prog 39 #[vx S M1, .int .i64 1] w1 fun e w' => e = .returned (.int .i64 (1 + (mk S : Nat))) ∧ Marks lo hi w1 w') := fun lo hi M1 w1 h => markRex_any lo hi S M1 w1 h hcnt
    have HLEN : Hid ((setsR S).length ≤ 1048577 ∧ sumL (setsR S) ≤ 1048576) := ⟨setsR_len hcnt, setsR_sum hcnt⟩
    have hmk20 : mk S ≤ 2097152 := by have := mk_le S; omega
    have H12 : Hid (∀ M1 M2 w1, In AnyB w1 S M1 → In AnyB w1 S M2 → Calls Tryd.prog 33 #[vx S M1, vx S M2] w1 fun e w' => e = .returned (.bool true) ∧ Below w1.heap.size w1 w') := fun M1 M2 w1 h1 h2 => eqRex_same S M1 M2 w1 h1 h2 hcnt
    obtain ⟨z, hz⟩ : ∃ z : Nat, cnt S = z := ⟨_, rfl⟩
    obtain ⟨mkn, hmkn⟩ : ∃ mkn : Nat, mk S = mkn := ⟨_, rfl⟩
    rw [hmkn] at H20 hmk20
    have hmk0 : ¬ (1 + (mkn : Int) < 0) := by omega
    have hz0 : ¬ 1048576 - (z : Int) < 0 := by omega
    rw [hz] at HZ
    rw [hv] at HZ H10 ⊢
    clear hv hz hmkn hcnt hc hT hE
    go_enter Tryd.func9, Tryd.ntmps9
    go_wp2_with fail
    refine (HZ.out _ hb0).mono ?_
    rintro e w1 ⟨rfl, hb1⟩
    have hB1 := hb0.trans (hb1.mono hb0.size)
    have a0 : w1.cell? ⟨w.heap.size, 0, none⟩ = some (.int .i64 S.kind) := (hb1.cell (p := ⟨w.heap.size, 0, none⟩) (by simp)).trans (by simp [go_sem])
    have a1 : w1.cell? ⟨w.heap.size, 1, none⟩ = some (.slice a n c) := (hb1.cell (p := ⟨w.heap.size, 1, none⟩) (by simp)).trans (by simp [go_sem])
    have a2 : w1.cell? ⟨w.heap.size, 2, none⟩ = some (.slice a' m c') := (hb1.cell (p := ⟨w.heap.size, 2, none⟩) (by simp)).trans (by simp [go_sem])
    have hlt1 : w.heap.size < w1.heap.size := World.block_lt_of_cell? _ _ a0
    go_wp2_with fail
    refine (H10.out _ hB1).mono ?_
    rintro e w2 ⟨M1, rfl, hin1, hb2⟩
    have hB2 := hB1.trans (hb2.mono hB1.size)
    have b0 : w2.cell? ⟨w.heap.size, 0, none⟩ = some (.int .i64 S.kind) := (hb2.cell (p := ⟨w.heap.size, 0, none⟩) hlt1).trans a0
    have b1 : w2.cell? ⟨w.heap.size, 1, none⟩ = some (.slice a n c) := (hb2.cell (p := ⟨w.heap.size, 1, none⟩) hlt1).trans a1
    have b2 : w2.cell? ⟨w.heap.size, 2, none⟩ = some (.slice a' m c') := (hb2.cell (p := ⟨w.heap.size, 2, none⟩) hlt1).trans a2
    have hlt2 : w.heap.size < w2.heap.size := World.block_lt_of_cell? _ _ b0
    have HI1 : Hid _ := hin1
    clear a0 a1 a2 hin1
    go_wp2_with fail
    refine (H9.out M1 w2 (In.any HI1.out)).mono ?_
    rintro e w3 ⟨g0, n0, c0, vs0, rfl, hlp0, hb3⟩
    have HLP0 : Hid _ := hlp0
    clear hlp0
    have hB3 := hB2.trans (hb3.mono hB2.size)
    have c0 : w3.cell? ⟨w.heap.size, 0, none⟩ = some (.int .i64 S.kind) := (hb3.cell (p := ⟨w.heap.size, 0, none⟩) hlt2).trans b0
    have c1 : w3.cell? ⟨w.heap.size, 1, none⟩ = some (.slice a n c) := (hb3.cell (p := ⟨w.heap.size, 1, none⟩) hlt2).trans b1
    have c2 : w3.cell? ⟨w.heap.size, 2, none⟩ = some (.slice a' m c') := (hb3.cell (p := ⟨w.heap.size, 2, none⟩) hlt2).trans b2
    have hlt3 : w.heap.size < w3.heap.size := World.block_lt_of_cell? _ _ c0
    have HC3 : Hid (w3.cell? ⟨w.heap.size, 0, none⟩ = some (.int .i64 S.kind) ∧ w3.cell? ⟨w.heap.size, 1, none⟩ = some (.slice a n c) ∧ w3.cell? ⟨w.heap.size, 2, none⟩ = some (.slice a' m c')) := ⟨c0, c1, c2⟩
    clear b0 b1 b2 HI1
    go_wp2_with fail
    refine (H10.out _ hB3).mono ?_
    rintro e w4 ⟨M2, rfl, hin2, hb4⟩
    have hB4 := hB3.trans (hb4.mono hB3.size)
    have d0 : w4.cell? ⟨w.heap.size, 0, none⟩ = some (.int .i64 S.kind) := (hb4.cell (p := ⟨w.heap.size, 0, none⟩) hlt3).trans c0
    have d1 : w4.cell? ⟨w.heap.size, 1, none⟩ = some (.slice a n c) := (hb4.cell (p := ⟨w.heap.size, 1, none⟩) hlt3).trans c1
    have d2 : w4.cell? ⟨w.heap.size, 2, none⟩ = some (.slice a' m c') := (hb4.cell (p := ⟨w.heap.size, 2, none⟩) hlt3).trans c2
    have hlt4 : w.heap.size < w4.heap.size := World.block_lt_of_cell? _ _ d0
    obtain ⟨e1, e2, e3, e4, e5, e6, hv2⟩ := hin2.value
    have HI2 : Hid _ := hin2
    have HV2 : Hid (vx S M2 = .agg #[.int .i64 S.kind, .slice e1 e2 e3, .slice e4 e5 e6]) := hv2
    rw [hv2]
    clear c0 c1 c2 hin2 hv2
    go_wp2_with fail
    have hb5 : Below w4.heap.size w4 (w4.alloc (.cells #[.int .i64 S.kind, .slice e1 e2 e3, .slice e4 e5 e6] 26)) := (Below.refl _ _).alloc (Nat.le_refl _) _
    have hB5 := hB4.trans (hb5.mono hB4.size)
    have H11' := H11.out M2 _ hB5 ((In.any HI2.out).below hb5)
    rw [HV2.out] at H11'
    refine H11'.mono ?_
    clear H11'
    rintro e w6 ⟨g, gn, gc, vs, rfl, hlo, hb6⟩
    have HLO : Hid (Lo w6 (w4.alloc (.cells #[.int .i64 S.kind, .slice e1 e2 e3, .slice e4 e5 e6] 26)).heap.size (.slice g gn gc) vs (setsR S)) := hlo
    clear hlo
    have hB6 := hB5.trans (hb6.mono hB5.size)
    have x0 : w6.cell? ⟨w4.heap.size, 0, none⟩ = some (.int .i64 S.kind) := (hb6.cell (p := ⟨w4.heap.size, 0, none⟩) (by simp)).trans (by simp [go_sem])
    have x1 : w6.cell? ⟨w4.heap.size, 1, none⟩ = some (.slice e1 e2 e3) := (hb6.cell (p := ⟨w4.heap.size, 1, none⟩) (by simp)).trans (by simp [go_sem])
    have x2 : w6.cell? ⟨w4.heap.size, 2, none⟩ = some (.slice e4 e5 e6) := (hb6.cell (p := ⟨w4.heap.size, 2, none⟩) (by simp)).trans (by simp [go_sem])
    have y0 : w6.cell? ⟨w.heap.size, 0, none⟩ = some (.int .i64 S.kind) := ((hb5.trans (hb6.mono hb5.size)).cell (p := ⟨w.heap.size, 0, none⟩) hlt4).trans d0
    have y1 : w6.cell? ⟨w.heap.size, 1, none⟩ = some (.slice a n c) := ((hb5.trans (hb6.mono hb5.size)).cell (p := ⟨w.heap.size, 1, none⟩) hlt4).trans d1
    have y2 : w6.cell? ⟨w.heap.size, 2, none⟩ = some (.slice a' m c') := ((hb5.trans (hb6.mono hb5.size)).cell (p := ⟨w.heap.size, 2, none⟩) hlt4).trans d2
    have HI6 : Hid (In AnyB w6 S M2) := ((In.any HI2.out).below hb5).below hb6
    clear d0 d1 d2
    have HB36 : Hid (Below w3.heap.size w3 w6) := (hb4.trans (hb5.mono hb4.size)).trans (hb6.mono (Nat.le_trans hb4.size hb5.size))
    have HE6 : Hid (∀ W base g1 m1 c1 vs1, Below w3.heap.size w3 W → Lp W base (.slice g1 m1 c1) vs1 (setsR S) → Calls Tryd.prog 27 #[.slice g1 m1 c1, .slice g0 n0 c0] W fun e w' => e = .returned (.bool true) ∧ Below W.heap.size W w') := fun W base g1 m1 c1 vs1 hb h =>
      eqL_any h (HLP0.out.below hb) HLEN.out.1 HLEN.out.2
    have hs45 : w4.heap.size < (w4.alloc (.cells #[.int .i64 S.kind, .slice e1 e2 e3, .slice e4 e5 e6] 26)).heap.size := by simp
    have hs34 : w3.heap.size ≤ w4.heap.size := hb4.size
    obtain ⟨z5, hz5⟩ : ∃ z5, (w4.alloc (.cells #[.int .i64 S.kind, .slice e1 e2 e3, .slice e4 e5 e6] 26)).heap.size = z5 := ⟨_, rfl⟩
    rw [hz5] at HLO hs45
    have hs56 : z5 ≤ w6.heap.size := by rw [← hz5]; exact hb6.size
    have HM20 : Hid (∀ W, Below w6.heap.size w6 W → Calls Tryd.prog 39 #[.agg #[.int .i64 S.kind, .slice e1 e2 e3, .slice e4 e5 e6], .int .i64 1] W fun e w' => e = .returned (.int .i64 (1 + (mkn : Nat))) ∧ Marks w3.heap.size w4.heap.size W w') := fun W hb => by
      have hb4W : Below w4.heap.size w4 W := (hb5.trans (hb6.mono hb5.size)).trans (hb.mono (by omega))
      have hin : In (Mine w3.heap.size w4.heap.size W) W S M2 := In.mono (fun k hk => ⟨hk.1, hk.2.lt, fun o => softF (hk.2.below hb4W) o⟩) (HI2.out.below hb4W)
      have h2 := H20.out w3.heap.size w4.heap.size M2 W hin
      rwa [HV2.out] at h2
    have HG : Hid (∀ W, Below w6.heap.size w6 W → ∀ W', Marks w3.heap.size w4.heap.size W W' → Below w3.heap.size w3 W' ∧ Lo W' z5 (.slice g gn gc) vs (setsR S) ∧ w6.heap.size ≤ W'.heap.size) := fun W hb W' hm =>
      ⟨(HB36.out.trans (hb.mono HB36.out.size)).trans ⟨hm.os, hm.tape, hm.output, hm.size, fun k hk => hm.far k (by have := hb.size; omega) (.inl hk)⟩,
       HLO.out.keep (fun k h1 h2 => (hm.far k (by have := hb.size; omega) (.inr (by omega))).trans (hb.block k h2)), by have := hb.size; have := hm.size; omega⟩
    go_wp2_with fail
    refine (HE6.out w6 z5 g gn gc vs HB36.out HLO.out.lp).mono ?_
    rintro e w66 ⟨rfl, hb66⟩
    have HB66 : Hid (Below w6.heap.size w6 w66) := hb66
    have hBB := hB6.trans (hb66.mono hB6.size)
    have X0 := (hb66.cell (p := ⟨w4.heap.size, 0, none⟩) (World.block_lt_of_cell? _ _ x0)).trans x0
    have X1 := (hb66.cell (p := ⟨w4.heap.size, 1, none⟩) (World.block_lt_of_cell? _ _ x1)).trans x1
    have X2 := (hb66.cell (p := ⟨w4.heap.size, 2, none⟩) (World.block_lt_of_cell? _ _ x2)).trans x2
    have Y0 := (hb66.cell (p := ⟨w.heap.size, 0, none⟩) (World.block_lt_of_cell? _ _ y0)).trans y0
    have Y1 := (hb66.cell (p := ⟨w.heap.size, 1, none⟩) (World.block_lt_of_cell? _ _ y1)).trans y1
    have Y2 := (hb66.cell (p := ⟨w.heap.size, 2, none⟩) (World.block_lt_of_cell? _ _ y2)).trans y2
    have l6 : w4.heap.size < w66.heap.size := World.block_lt_of_cell? _ _ X0
    have H12' : Hid (∀ M3 w7, Below w66.heap.size w66 w7 → In AnyB w7 S M3 → Calls Tryd.prog 33 #[.agg #[.int .i64 S.kind, .slice e1 e2 e3, .slice e4 e5 e6], vx S M3] w7 fun e w' => e = .returned (.bool true) ∧ Below w7.heap.size w7 w') := fun M3 w7 hb h => by
      have h2 := H12.out M2 M3 w7 ((HI6.out.below HB66.out).below hb) h
      rwa [HV2.out] at h2
    have HY : Hid (∀ W, Below w3.heap.size w3 W → W.cell? ⟨w.heap.size, 0, none⟩ = some (.int .i64 S.kind) ∧ W.cell? ⟨w.heap.size, 1, none⟩ = some (.slice a n c) ∧ W.cell? ⟨w.heap.size, 2, none⟩ = some (.slice a' m c')) := fun W hb =>
      ⟨(hb.cell (p := ⟨w.heap.size, 0, none⟩) hlt3).trans (HC3.out.1), (hb.cell (p := ⟨w.heap.size, 1, none⟩) hlt3).trans (HC3.out.2.1), (hb.cell (p := ⟨w.heap.size, 2, none⟩) hlt3).trans (HC3.out.2.2)⟩
    clear H12 HI2 HV2 HI6 hb66 x0 x1 x2 y0 y1 y2
    go_wp2_with fail
    go_region_with (first
      | (go_at_call 31; refine (H10.out _ hBB.drew).mono ?_; rintro e w7 ⟨M3, rfl, hin3, hb7⟩; have hb7' : Below w66.heap.size w66 w7 := (Below.refl _ _).drew.trans hb7
         have p0 := (hb7'.cell (p := ⟨w4.heap.size, 0, none⟩) l6).trans X0
         have p1 := (hb7'.cell (p := ⟨w4.heap.size, 1, none⟩) l6).trans X1
         have p2 := (hb7'.cell (p := ⟨w4.heap.size, 2, none⟩) l6).trans X2)
      | (go_at_call 33; refine (H12'.out M3 _ hb7' (In.any hin3)).mono ?_; rintro e w8 ⟨rfl, hb8⟩))
    all_goals
      have hb68 : Below w6.heap.size w6 w8 := (HB66.out.trans (hb7'.mono HB66.out.size)).trans (hb8.mono (Nat.le_trans HB66.out.size hb7'.size))
      have q0 := (hb8.cell (p := ⟨w4.heap.size, 0, none⟩) (World.block_lt_of_cell? _ _ p0)).trans p0
      have q1 := (hb8.cell (p := ⟨w4.heap.size, 1, none⟩) (World.block_lt_of_cell? _ _ p1)).trans p1
      have q2 := (hb8.cell (p := ⟨w4.heap.size, 2, none⟩) (World.block_lt_of_cell? _ _ p2)).trans p2
      clear p0 p1 p2 X0 X1 X2 Y0 Y1 Y2 hin3 hb7 hb7' hb8
      go_wp2_with fail
      refine (HM20.out w8 hb68).mono ?_
      rintro e w9 ⟨rfl, hm9⟩
      obtain ⟨hb39, hlo9, hs9⟩ := HG.out w8 hb68 w9 hm9
      have HLO9 : Hid _ := hlo9
      clear hlo9 hm9 q0 q1 q2 hb68
      go_wp2_with fail
      refine (HE6.out w9 z5 g gn gc vs hb39 HLO9.out.lp).mono ?_
      rintro e w10 ⟨rfl, hb10⟩
      have hlo10 : Lo w10 z5 (.slice g gn gc) vs (setsR S) := HLO9.out.keep (fun k h1 h2 => hb10.block k h2)
      obtain ⟨hgn, B, V, hgB, hL10, hVb⟩ := hlo10.lst
      have HL10 : Hid _ := hL10
      have HVB : Hid _ := hVb
      have HGB : Hid (0 < gn → g = some ⟨B, 0, none⟩) := hgB
      have hgn2 : gn ≤ 4194304 := by have := HLEN.out.1; omega
      have htot : tot (sz (setsR S)) gn ≤ 4194304 := by rw [hgn, tot_all]; have := HLEN.out.2; omega
      have hs10 := hb10.size
      have hb310 : Below w3.heap.size w3 w10 := hb39.trans (hb10.mono hb39.size)
      clear hlo10 hL10 hVb hgB hgn
      have hT0 : ¬ (1 + 2 * (tot (sz (setsR S)) gn : Int) < 0) := by omega
      have hTT : ((1 + 2 * (tot (sz (setsR S)) gn : Int)) != (1 + 2 * (tot (sz (setsR S)) gn : Int))) = false := by simp
      go_wp2_with fail
      refine (markSS_any g B gc gn z5 V _ _ 1 w10 HGB.out HL10.out (by omega) (by omega) hgn2 htot).mono ?_
      rintro e w11 ⟨rfl, hL11, hsp⟩
      have HL11 : Hid _ := hL11
      have hb311 : Below w3.heap.size w3 w11 := hb310.trans ((hsp.below (base := z5) (by omega) HVB.out).mono (by omega))
      clear hL11 hsp
      go_wp2_with fail
      refine (heldSS_any g B gc gn z5 V _ _ 1 w11 HGB.out HL11.out (by omega) (by omega) hgn2 htot).mono ?_
      rintro e w12 ⟨rfl, hw12⟩
      subst w12
      obtain ⟨Z0, Z1, Z2⟩ := HY.out w11 hb311
      have hBw11 : Below w.heap.size w w11 := hB3.trans (hb311.mono hB3.size)
      go_wp2_with fail
      refine (H10.out w11 hBw11).mono ?_
      rintro e w13 ⟨M4, rfl, hin4, hb13⟩
      obtain ⟨k1, k2, k3, k4, k5, k6, hv4⟩ := hin4.value
      have H18 : Hid (Calls Tryd.prog 38 #[.agg #[.int .i64 S.kind, .slice k1 k2 k3, .slice k4 k5 k6]] w13 (SetsRes S w13)) := by
        have h2 := H11.out M4 w13 (hBw11.trans (hb13.mono hBw11.size)) (In.any hin4)
        rwa [hv4] at h2
      rw [hv4]
      clear hin4 hv4 Z0 Z1 Z2
      go_wp2_with fail
      refine H18.out.mono ?_
      rintro e w14 ⟨g2, m2, c2, vs2, rfl, hlo2, hb14⟩
      have hb11_14 : Below w11.heap.size w11 w14 := hb13.trans (hb14.mono hb13.size)
      have hb314 : Below w3.heap.size w3 w14 := hb311.trans (hb11_14.mono hb311.size)
      have HLO2 : Hid _ := hlo2.lp
      clear hlo2 H18
      go_wp2_with fail
      refine (HE6.out w14 _ g2 m2 c2 vs2 hb314 HLO2.out).mono ?_
      rintro e w15 ⟨rfl, hb15⟩
      have hb11_15 : Below w11.heap.size w11 w15 := hb11_14.trans (hb15.mono hb11_14.size)
      go_wp2_with fail
      refine (heldSS_any g B gc gn z5 V _ _ 1 w15 HGB.out (HL11.out.below hb11_15) (by omega) (by omega) hgn2 htot).mono ?_
      rintro e w16 ⟨rfl, hw16⟩
      subst w16
      go_wp2_with fail
      go_ret
      exact ⟨rfl, hBw11.trans (hb11_15.mono hBw11.size)⟩

end Go.Proofs.YtbnllbhlmnkgcaaDoor
