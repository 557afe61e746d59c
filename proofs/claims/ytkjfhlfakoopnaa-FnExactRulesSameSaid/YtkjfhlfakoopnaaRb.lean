/- the walk of the model's RexSame -/
import Derived.Test.YtkjfhlfakoopnaaRa
import Derived.Test.YtkjfhlfakoopnaaWd
import Derived.Deep.RegionHeld
namespace Go.Proofs.Ytkjfhlfakoopnaa
open Go.RowKit
set_option linter.unusedVariables false
set_option linter.unusedSimpArgs false

theorem rootB_kind {S T : Sh} (h : S.kind ≠ T.kind) : rootB S T = false := by simp [rootB, h]
theorem rootB_set {S T : Sh} (h : eqB S.n S.L S.H T.n T.L T.H = false) : rootB S T = false := by simp [rootB, h]
theorem rootB_m {S T : Sh} (h : S.m ≠ T.m) : rootB S T = false := by simp [rootB, h]
theorem sameR_root {S T : Sh} (h : rootB S T = false) : sameR S T = false := by
  rw [← Bool.not_eq_true, sameR_iff, h]; simp
theorem sameR_kid {S T : Sh} {i : Nat} (hi : i < S.m) (h : sameR (S.kidAt i) (T.kidAt i) = false) : sameR S T = false := by
  rw [← Bool.not_eq_true, sameR_iff]
  intro e
  rw [e.2 i hi] at h
  cases h

set_option maxRecDepth 100000 in
set_option maxHeartbeats 2000000 in
theorem specSame_any (S : Sh) : ∀ (M : Mx) (T : Sh) (N : Mx) (w : World), In AnyB w S M → In AnyB w T N → cnt S ≤ 1048576 → cnt T ≤ 1048576 →
    Calls Try.prog 10 #[vx S M, vx T N] w fun e w' => e = .returned (.bool (sameR S T)) ∧ Below w.heap.size w w' := by
  induction S using Sh.ind2 with
  | h S ih =>
    intro M T N w h h' hcS hcT
    obtain ⟨a, b, off, cap, a', b', off', cap', e1, hn, hs, hl, e2, hm, hl', hk⟩ := h.parts
    obtain ⟨c, d, ff, cp, c', d', ff', cp', f1, gn, gs, gl, f2, gm, gl', gk⟩ := h'.parts
    have hcS' := hcS
    have hcT' := hcT
    rw [cnt_at] at hcS' hcT'
    simp only [vx, e1, e2, f1, f2]
    obtain ⟨W0, hW0⟩ : ∃ W0, W0 = ((w.alloc (.cells #[.int .i64 S.kind, .slice a S.n cap, .slice a' S.m cap'] 38)).alloc (.cells #[.int .i64 T.kind, .slice c T.n cp, .slice c' T.m cp'] 38)) := ⟨_, rfl⟩
    have hB0 : Below w.heap.size w W0 := by rw [hW0]; exact ((Below.refl _ _).alloc (Nat.le_refl _) _).alloc (by simp) _
    have x0 : W0.cell? ⟨w.heap.size, 0, none⟩ = some (.int .i64 S.kind) := by rw [hW0]; simp [go_sem]
    have x1 : W0.cell? ⟨w.heap.size, 1, none⟩ = some (.slice a S.n cap) := by rw [hW0]; simp [go_sem]
    have x2 : W0.cell? ⟨w.heap.size, 2, none⟩ = some (.slice a' S.m cap') := by rw [hW0]; simp [go_sem]
    have y0 : W0.cell? ⟨w.heap.size + 1, 0, none⟩ = some (.int .i64 T.kind) := by rw [hW0]; simp [go_sem]
    have y1 : W0.cell? ⟨w.heap.size + 1, 1, none⟩ = some (.slice c T.n cp) := by rw [hW0]; simp [go_sem]
    have y2 : W0.cell? ⟨w.heap.size + 1, 2, none⟩ = some (.slice c' T.m cp') := by rw [hW0]; simp [go_sem]
    have HX : Hid (∀ W, Below W0.heap.size W0 W → W.cell? ⟨w.heap.size, 2, none⟩ = some (.slice a' S.m cap') ∧ W.cell? ⟨w.heap.size + 1, 2, none⟩ = some (.slice c' T.m cp')) := fun W hb =>
      ⟨(hb.cell (p := ⟨_, _, none⟩) (World.block_lt_of_cell? _ _ x2)).trans x2, (hb.cell (p := ⟨_, _, none⟩) (World.block_lt_of_cell? _ _ y2)).trans y2⟩
    have H11 : Hid (Calls Try.prog 17 #[.slice a S.n cap, .slice c T.n cp] W0 fun e w' => e = .returned (.bool (eqB S.n S.L S.H T.n T.L T.H)) ∧ Below W0.heap.size W0 w') :=
      specSetSame_any a c b off cap S.n d ff cp T.n S.L S.H T.L T.H W0 (fun h => (hn h).1) (hs.below hB0) (fun h => (gn h).1) (gs.below hB0) (by omega) (by omega)
    have HKID : Hid (∀ i W, i < S.m → i < T.m → Below w.heap.size w W → ∃ (k0 k1 : Int) (a0 b0 a1 b1 : Option Addr) (n0 c0 m0 d0 n1 c1 m1 d1 : Nat),
        W.cell? ⟨b', off' + i * 3, none⟩ = some (.int .i64 k0) ∧ W.cell? ⟨b', off' + i * 3 + 1, none⟩ = some (.slice a0 n0 c0) ∧ W.cell? ⟨b', off' + i * 3 + 2, none⟩ = some (.slice b0 m0 d0) ∧
        W.cell? ⟨d', ff' + i * 3, none⟩ = some (.int .i64 k1) ∧ W.cell? ⟨d', ff' + i * 3 + 1, none⟩ = some (.slice a1 n1 c1) ∧ W.cell? ⟨d', ff' + i * 3 + 2, none⟩ = some (.slice b1 m1 d1) ∧
        Hid (Calls Try.prog 10 #[.agg #[.int .i64 k0, .slice a0 n0 c0, .slice b0 m0 d0], .agg #[.int .i64 k1, .slice a1 n1 c1, .slice b1 m1 d1]] W.drew fun e w' => e = .returned (.bool (sameR (S.kidAt i) (T.kidAt i))) ∧ Below W.drew.heap.size W.drew w')) := fun i W hi hj hb => by
      obtain ⟨⟨p0, p1, p2⟩, hin⟩ := hk i hi
      obtain ⟨⟨q0, q1, q2⟩, gin⟩ := gk i hj
      have hc := ih i hi (M.kid i) (T.kidAt i) (N.kid i) W.drew ((hin.below hb).below (Below.refl _ _).drew) ((gin.below hb).below (Below.refl _ _).drew) (by have := sumN_at (f := fun i => cnt (S.kidAt i)) hi; omega) (by have := sumN_at (f := fun i => cnt (T.kidAt i)) hj; omega)
      obtain ⟨r1, r2, r3, r4, r5, r6, z1, z2⟩ := hin.slices
      obtain ⟨s1, s2, s3, s4, s5, s6, u1, u2⟩ := gin.slices
      rw [vx, vx, z1, z2, u1, u2] at hc
      exact ⟨_, _, _, _, _, _, _, _, _, _, _, _, _, _, (hb.cell (p := ⟨b', _, none⟩) (World.block_lt_of_cell? _ _ p0)).trans p0, (hb.cell (p := ⟨b', _, none⟩) (World.block_lt_of_cell? _ _ p1)).trans (p1.trans (by rw [z1])), (hb.cell (p := ⟨b', _, none⟩) (World.block_lt_of_cell? _ _ p2)).trans (p2.trans (by rw [z2])),
        (hb.cell (p := ⟨d', _, none⟩) (World.block_lt_of_cell? _ _ q0)).trans q0, (hb.cell (p := ⟨d', _, none⟩) (World.block_lt_of_cell? _ _ q1)).trans (q1.trans (by rw [u1])), (hb.cell (p := ⟨d', _, none⟩) (World.block_lt_of_cell? _ _ q2)).trans (q2.trans (by rw [u2])), hc⟩
    have HB0 : Hid (Below w.heap.size w W0) := hB0
    obtain ⟨n1, hn1⟩ : ∃ x, x = S.n := ⟨_, rfl⟩
    obtain ⟨n2, hn2⟩ : ∃ x, x = T.n := ⟨_, rfl⟩
    obtain ⟨m1, hm1⟩ : ∃ x, x = S.m := ⟨_, rfl⟩
    obtain ⟨m2, hm2⟩ : ∃ x, x = T.m := ⟨_, rfl⟩
    have HM1 : Hid (m1 = S.m) := hm1
    have HM2 : Hid (m2 = T.m) := hm2
    have hma : m1 ≤ 1048576 := by omega
    have hga : Hid (0 < m1 → a' = some ⟨b', off', none⟩) := fun h => (hm (by rw [← hm1]; exact h)).1
    have hgc : Hid (0 < m2 → c' = some ⟨d', ff', none⟩) := fun h => (gm (by rw [← hm2]; exact h)).1
    rw [← hm1] at HX
    rw [← hm2] at HX
    clear hk gk hs gs hn gn hm gm h h' ih e1 e2 f1 f2 hB0
    by_cases hkk : S.kind = T.kind
    · rcases Bool.eq_false_or_eq_true (eqB S.n S.L S.H T.n T.L T.H) with he | he
      · rw [he] at H11
        by_cases hmm : S.m = T.m
        · have hb1 : (S.kind != T.kind) = false := by simp [hkk]
          have hb2 : ((S.m : Int) != (T.m : Int)) = false := by simp [hmm]
          have HRT : Hid (rootB S T = true) := by rw [Hid, rootB, he]; simp [hkk, hmm]
          have HMM : Hid (m2 = m1) := by rw [Hid]; omega
          clear he hkk hmm
          go_enter Try.func10, Try.ntmps10
          go_wp2_with fail
          rw [← hW0]
          clear hW0
          refine H11.out.mono ?_
          rintro e w1 ⟨rfl, hb1⟩
          obtain ⟨z1, z2⟩ := HX.out w1 hb1
          rw [hm1] at z1
          rw [hm2] at z2
          go_wp2_with fail
          clear z1 z2
          obtain hmm' := HMM.out
          clear hb2 hm1 hm2 hcS hcT hcS' hcT' HMM
          subst hmm'
          go_loopw [5] (fun i wr => ∃ k : Nat, k ≤ m2 ∧ i = .int .i64 k ∧ Hid (∀ j, j < k → sameR (S.kidAt j) (T.kidAt j) = true) ∧ Below W0.heap.size W0 wr) (fun i _ => m2 - (intOf i).toNat)
          case atStart => exact ⟨0, Nat.zero_le _, rfl, fun j hj => absurd hj (Nat.not_lt_zero _), hb1⟩
          case round =>
            obtain ⟨k, hk', rfl, Hall, hB⟩ := hrel
            obtain ⟨z1, z2⟩ := HX.out wr hB
            by_cases hlt : k < m2
            · have hltz : (k : Int) < (m2 : Int) := by omega
              have ga := hga.out (by omega)
              have gc := hgc.out (by omega)
              subst ga gc
              obtain ⟨k0, k1, a0, b0, a1, b1, n0, c0, m0, d0, n3, c1, m3, d1, p0, p1, p2, q0, q1, q2, HC⟩ := HKID.out k wr (by rw [← HM1.out]; exact hlt) (by rw [← HM2.out]; exact hlt) (HB0.out.trans (hB.mono HB0.out.size))
              have HKS : Hid (∀ j, j < k → sameR (S.kidAt j) (T.kidAt j) = true) := Hall
              have keep : Hid (∀ W, Below wr.drew.heap.size wr.drew W → W.cell? ⟨w.heap.size, 2, none⟩ = some (.slice (some ⟨b', off', none⟩) m2 cap') ∧ W.cell? ⟨w.heap.size + 1, 2, none⟩ = some (.slice (some ⟨d', ff', none⟩) m2 cp') ∧
                  W.cell? ⟨b', off' + k * 3, none⟩ = some (.int .i64 k0) ∧ W.cell? ⟨b', off' + k * 3 + 1, none⟩ = some (.slice a0 n0 c0) ∧ W.cell? ⟨b', off' + k * 3 + 2, none⟩ = some (.slice b0 m0 d0) ∧
                  W.cell? ⟨d', ff' + k * 3, none⟩ = some (.int .i64 k1) ∧ W.cell? ⟨d', ff' + k * 3 + 1, none⟩ = some (.slice a1 n3 c1) ∧ W.cell? ⟨d', ff' + k * 3 + 2, none⟩ = some (.slice b1 m3 d1)) := fun W hb => by
                have hbb : Below wr.heap.size wr W := (Below.refl _ _).drew.trans hb
                exact ⟨(hbb.cell (p := ⟨_, _, none⟩) (World.block_lt_of_cell? _ _ z1)).trans z1, (hbb.cell (p := ⟨_, _, none⟩) (World.block_lt_of_cell? _ _ z2)).trans z2, (hbb.cell (p := ⟨_, _, none⟩) (World.block_lt_of_cell? _ _ p0)).trans p0, (hbb.cell (p := ⟨_, _, none⟩) (World.block_lt_of_cell? _ _ p1)).trans p1, (hbb.cell (p := ⟨_, _, none⟩) (World.block_lt_of_cell? _ _ p2)).trans p2,
                  (hbb.cell (p := ⟨_, _, none⟩) (World.block_lt_of_cell? _ _ q0)).trans q0, (hbb.cell (p := ⟨_, _, none⟩) (World.block_lt_of_cell? _ _ q1)).trans q1, (hbb.cell (p := ⟨_, _, none⟩) (World.block_lt_of_cell? _ _ q2)).trans q2⟩
              clear Hall
              rcases Bool.eq_false_or_eq_true (sameR (S.kidAt k) (T.kidAt k)) with hsk | hsk
              · rw [hsk] at HC
                have HSK : Hid _ := hsk
                clear hsk
                go_wp2_with fail
                go_region_held (fun w' => w'.cell? ⟨w.heap.size, 2, none⟩ = some (.slice (some ⟨b', off', none⟩) m2 cap') ∧ w'.cell? ⟨w.heap.size + 1, 2, none⟩ = some (.slice (some ⟨d', ff', none⟩) m2 cp') ∧
                  w'.cell? ⟨b', off' + k * 3, none⟩ = some (.int .i64 k0) ∧ w'.cell? ⟨b', off' + k * 3 + 1, none⟩ = some (.slice a0 n0 c0) ∧ w'.cell? ⟨b', off' + k * 3 + 2, none⟩ = some (.slice b0 m0 d0) ∧
                  w'.cell? ⟨d', ff' + k * 3, none⟩ = some (.int .i64 k1) ∧ w'.cell? ⟨d', ff' + k * 3 + 1, none⟩ = some (.slice a1 n3 c1) ∧ w'.cell? ⟨d', ff' + k * 3 + 2, none⟩ = some (.slice b1 m3 d1)) (go_keep)
                  (first | (go_at_call 10; refine HC.out.mono ?_; rintro e w2 ⟨rfl, hb2⟩; obtain ⟨s0, s1, s2, s3, s4, s5, s6, s7⟩ := keep.out w2 hb2))
                all_goals go_wp2_with fail
                all_goals
                  go_roundw
                  case rel => exact ⟨k + 1, by omega, by go_num, fun j hj => (by by_cases ej : j = k; exact ej ▸ HSK.out; exact HKS.out j (by omega)), hB.drew.trans (hb2.mono hB.drew.size)⟩
                  case measure => simp [intOf]; omega
              · rw [hsk] at HC
                have HSK : Hid (sameR S T = false) := sameR_kid (by rw [← HM1.out]; exact hlt) hsk
                clear hsk
                go_wp2_with fail
                go_region_held (fun w' => w'.cell? ⟨w.heap.size, 2, none⟩ = some (.slice (some ⟨b', off', none⟩) m2 cap') ∧ w'.cell? ⟨w.heap.size + 1, 2, none⟩ = some (.slice (some ⟨d', ff', none⟩) m2 cp') ∧
                  w'.cell? ⟨b', off' + k * 3, none⟩ = some (.int .i64 k0) ∧ w'.cell? ⟨b', off' + k * 3 + 1, none⟩ = some (.slice a0 n0 c0) ∧ w'.cell? ⟨b', off' + k * 3 + 2, none⟩ = some (.slice b0 m0 d0) ∧
                  w'.cell? ⟨d', ff' + k * 3, none⟩ = some (.int .i64 k1) ∧ w'.cell? ⟨d', ff' + k * 3 + 1, none⟩ = some (.slice a1 n3 c1) ∧ w'.cell? ⟨d', ff' + k * 3 + 2, none⟩ = some (.slice b1 m3 d1)) (go_keep)
                  (first | (go_at_call 10; refine HC.out.mono ?_; rintro e w2 ⟨rfl, hb2⟩; obtain ⟨s0, s1, s2, s3, s4, s5, s6, s7⟩ := keep.out w2 hb2))
                all_goals go_wp2_with fail
                all_goals
                  go_ret
                  exact ⟨ret_bool HSK.out.symm, HB0.out.trans ((hB.drew.trans (hb2.mono hB.drew.size)).mono HB0.out.size)⟩
            · have HR : Hid (sameR S T = true) := (sameR_iff S T).2 ⟨HRT.out, fun i hi => Hall.out i (by rw [← HM1.out] at hi; omega)⟩
              have hltz : ¬ ((k : Int) < (m2 : Int)) := by omega
              go_wp2_with fail
              go_ret
              exact ⟨ret_bool HR.out.symm, HB0.out.trans (hB.mono HB0.out.size)⟩
        · have hb1 : (S.kind != T.kind) = false := by simp [hkk]
          have hb2 : ((S.m : Int) != (T.m : Int)) = true := by simp; omega
          have HR : Hid (sameR S T = false) := sameR_root (rootB_m hmm)
          clear he hkk
          go_enter Try.func10, Try.ntmps10
          go_wp2_with fail
          rw [← hW0]
          clear hW0
          refine H11.out.mono ?_
          rintro e w1 ⟨rfl, hb1⟩
          obtain ⟨z1, z2⟩ := HX.out w1 hb1
          rw [hm1] at z1
          rw [hm2] at z2
          go_wp2_with fail
          go_ret
          exact ⟨ret_bool HR.out.symm, HB0.out.trans (hb1.mono HB0.out.size)⟩
      · rw [he] at H11
        have hb1 : (S.kind != T.kind) = false := by simp [hkk]
        have HR : Hid (sameR S T = false) := sameR_root (rootB_set he)
        clear he hkk
        go_enter Try.func10, Try.ntmps10
        go_wp2_with fail
        rw [← hW0]
        clear hW0
        refine H11.out.mono ?_
        rintro e w1 ⟨rfl, hb1⟩
        go_wp2_with fail
        go_ret
        exact ⟨ret_bool HR.out.symm, HB0.out.trans (hb1.mono HB0.out.size)⟩
    · have hb1 : (S.kind != T.kind) = true := by simp [hkk]
      have HR : Hid (sameR S T = false) := sameR_root (rootB_kind hkk)
      go_enter Try.func10, Try.ntmps10
      go_wp2_with fail
      rw [← hW0]
      go_ret
      exact ⟨ret_bool HR.out.symm, HB0.out⟩
end Go.Proofs.Ytkjfhlfakoopnaa

