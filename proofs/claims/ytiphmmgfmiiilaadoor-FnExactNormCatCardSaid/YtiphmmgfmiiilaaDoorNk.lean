/- The walk of (depths).check. -/
import Derived.Test.YtiphmmgfmiiilaaDoorNj
namespace Go.Proofs.YtiphmmgfmiiilaaDoor
open Go.RowKit Go.Shelf
set_option linter.unusedVariables false
set_option linter.unusedSimpArgs false

/-- what check comes to: how deep it goes, or a panic; what it adds to the map was gone through -/
def CkRes (w0 : World) (b : Nat) (ks : List ((Addr × Nat) × Nat)) (S : Sh) (ar : Nat) (t : TypeId) (ea : Addr) (w : World) (e : Ending) (w' : World) : Prop :=
  w.grownBy w' (some b) ∧ ((formB (60 - ar) S = true ∧ e = .returned (.int .i64 (hgt S : Int)) ∧ ∃ ks', Km w' b ks' ∧ ∀ q ∈ ks', q ∈ ks ∨ ∃ D N, Wit w0 q D N ∧ szK D ≤ cnt S) ∨ (formB (60 - ar) S = false ∧ e = .panicked (errChain t ea)))

theorem grown_keep {w0 w w' : World} {b : Nat} (hb : Below w0.heap.size w0 w) (hg : w.grownBy w' (some b)) (hlo : w0.heap.size ≤ b) : Below w0.heap.size w0 w' :=
  hb.grown hg hb.size (fun k hk => by simp at hk; omega)
theorem below_grow {w w' : World} (r : Option Nat) (hb : Below w.heap.size w w') : w.grownBy w' r := ⟨hb.os, hb.tape, hb.output, hb.size, fun k hk _ => hb.block k hk⟩
theorem maxN_le {f : Nat → Nat} {d : Nat} : ∀ {m : Nat}, (∀ i, i < m → f i ≤ d) → maxN f m ≤ d
  | 0, _ => Nat.zero_le _
  | m + 1, h => by
    simp only [maxN]
    exact Nat.max_le.2 ⟨maxN_le (fun i hi => h i (by omega)), h m (by omega)⟩
theorem hgt_le (S : Sh) : hgt S ≤ cnt S := by
  induction S using Sh.ind2 with
  | h S ih =>
    rw [hgt_at]
    refine maxN_le (fun i hi => ?_)
    have h1 := ih i hi
    have h2 := kid_cnt S hi
    omega
theorem maxI (a b : Nat) : (if (a : Int) < (b : Int) then (b : Int) else (a : Int)) = ((max a b : Nat) : Int) := by
  split <;> omega

set_option maxRecDepth 100000 in
set_option maxHeartbeats 8000000 in
theorem check_any (w0 : World) (b : Nat) (t : TypeId) (ea : Addr) (hE : Err w0 t ea) (hlo : w0.heap.size ≤ b) (S : Sh) : ∀ (M : Mx) (ar : Nat) (w : World) (ks : List ((Addr × Nat) × Nat)), In (Soft w0) w0 S M → cnt S ≤ 1048576 → ar ≤ 60 → Below w0.heap.size w0 w → Km w b ks → KsW w0 ks →
    Calls Tryd.prog 32 #[.map (some b), vx S M, .int .i64 (ar : Int)] w (CkRes w0 b ks S ar t ea w) := by
  induction S using Sh.ind2 with
  | h S ih =>
    intro M ar w ks hin hcnt har hB hKm hKs
    have hbw := hKm.lt
    obtain ⟨a, sb, so, c, a', b', off', c', e1, hsn, hsp, hsl, e2, hma, hml, hkk⟩ := hin.parts
    have hv : vx S M = .agg #[.int .i64 S.kind, .slice a S.n c, .slice a' S.m c'] := by rw [vx, e1, e2]
    have HIN : Hid (In (Soft w0) w0 S M) := hin
    have HF : Hid (∀ d, formB d S = true ↔ allB S = true ∧ hgt S < d) := form_iff S
    have HALL : Hid (allB S = true ↔ goodS S = true ∧ ∀ i, i < S.m → allB (S.kidAt i) = true) := allB_at S
    have hn20 : S.n ≤ 4194304 := by rw [cnt_at] at hcnt; omega
    have hm20 : S.m ≤ 1048576 := by rw [cnt_at] at hcnt; omega
    obtain ⟨W1, hW1⟩ : ∃ W1, W1 = w.alloc (.cells #[.int .i64 S.kind, .slice a S.n c, .slice a' S.m c'] 30) := ⟨_, rfl⟩
    have hb1 : Below w.heap.size w W1 := by rw [hW1]; exact below_new _ _
    have hs1 : W1.heap.size = w.heap.size + 1 := by rw [hW1]; exact size_new _ _
    have HB1 : Hid (Below w0.heap.size w0 W1) := hB.trans (hb1.mono hB.size)
    have HG1 : Hid (w.grownBy W1 (some b)) := below_grow _ hb1
    have HX1 : Hid (W1.cell? ⟨w.heap.size, 0, none⟩ = some (.int .i64 S.kind) ∧ W1.cell? ⟨w.heap.size, 1, none⟩ = some (.slice a S.n c) ∧ W1.cell? ⟨w.heap.size, 2, none⟩ = some (.slice a' S.m c')) := by rw [hW1]; exact ⟨by simp [go_sem], by simp [go_sem], by simp [go_sem]⟩
    have HKEEP : Hid (∀ V, W1.grownBy V (some b) → V.cell? ⟨w.heap.size, 0, none⟩ = some (.int .i64 S.kind) ∧ V.cell? ⟨w.heap.size, 1, none⟩ = some (.slice a S.n c) ∧ V.cell? ⟨w.heap.size, 2, none⟩ = some (.slice a' S.m c') ∧ w.heap.size < V.heap.size) := fun V hg => by
      have e := hg.block w.heap.size (by omega) (by simp; omega)
      obtain ⟨x0, x1, x2⟩ := HX1.out
      exact ⟨(World.cell?_of_block (w := W1) (a := ⟨w.heap.size, 0, none⟩) e).trans x0, (World.cell?_of_block (w := W1) (a := ⟨w.heap.size, 1, none⟩) e).trans x1, (World.cell?_of_block (w := W1) (a := ⟨w.heap.size, 2, none⟩) e).trans x2, by have := hg.size; omega⟩
    have HCP : Hid (Calls Tryd.prog 44 #[.agg #[.int .i64 S.kind, .slice a S.n c, .slice a' S.m c']] W1 (ChkRes (goodS S) t ea W1)) := by
      have h := checkPart_any S M W1 t ea (hE.below HB1.out) (hin.below HB1.out) hn20
      rwa [hv] at h
    have HERR : Hid (∀ V, Below w0.heap.size w0 V → Err V t ea) := fun V hb => hE.below hb
    have HBAD : Hid (∀ e, formB (60 - ar) S = false → ∀ V, w.grownBy V (some b) → e = .panicked (errChain t ea) → CkRes w0 b ks S ar t ea w e V) := fun e hf V hg he => ⟨hg, .inr ⟨hf, he⟩⟩
    have HKM1 : Hid (Km W1 b ks) := hKm.below hb1
    have HKS : Hid (KsW w0 ks) := hKs
    rw [hv]
    by_cases h60 : ar = 60
    · have h59 : ¬ ((ar : Int) ≤ 59) := by omega
      have HNO : Hid (formB (60 - ar) S = false) := by rw [Hid, h60]; exact Bool.eq_false_iff.2 (fun e => by have := ((form_iff S _).1 e).2; omega)
      clear hv hin e1 e2 hsn hsp hsl hkk hB hKm hKs ih h60
      go_enter Tryd.func32, Tryd.ntmps32
      go_wp2_with fail
      rw [← hW1]
      refine (need_false _ t ea (HERR.out _ HB1.out)).mono ?_
      rintro e w1 ⟨rfl, hw1⟩
      subst w1
      exact ⟨rfl, HBAD.out _ HNO.out _ HG1.out rfl⟩
    · have h59 : ((ar : Int) ≤ 59) := by omega
      have har9 : ar ≤ 59 := by omega
      have HKID : Hid (∀ i, i < S.m → Kid w0 b' (off' + i * 3) (S.kidAt i) (M.kid i) ∧ In (Soft w0) w0 (S.kidAt i) (M.kid i)) := hkk
      have HIH : Hid (∀ i, i < S.m → ∀ (V : World) (ks1 : List ((Addr × Nat) × Nat)), Below w0.heap.size w0 V → Km V b ks1 → KsW w0 ks1 → Calls Tryd.prog 32 #[.map (some b), vx (S.kidAt i) (M.kid i), .int .i64 ((ar : Int) + 1)] V (CkRes w0 b ks1 (S.kidAt i) (ar + 1) t ea V)) := fun i hi V ks1 hb1 hk1 hs1 => by
        have h := ih i hi (M.kid i) (ar + 1) V ks1 (hkk i hi).2 (by have := kid_cnt S hi; omega) (by omega) hb1 hk1 hs1
        have e : (((ar + 1 : Nat) : Int)) = (ar : Int) + 1 := by omega
        rwa [e] at h
      have HV : Hid (vx S M = .agg #[.int .i64 S.kind, .slice a S.n c, .slice a' S.m c']) := hv
      clear hv hin e1 e2 hsn hsp hsl hkk hB hKm hKs ih h60
      go_enter Tryd.func32, Tryd.ntmps32
      go_wp2_with fail
      rw [← hW1]
      clear hW1
      refine (need_true _).mono ?_
      rintro e w1 ⟨rfl, hw1⟩
      subst w1
      obtain ⟨x0, x1, x2⟩ := HX1.out
      go_wp2_with fail
      refine HCP.out.mono ?_
      rintro e w2 ⟨⟨hg, rfl⟩ | ⟨hg, rfl⟩, hb2⟩
      · have HG2 : Hid (w.grownBy w2 (some b)) := HG1.out.trans (below_grow _ hb2)
        have HB2 : Hid (Below w0.heap.size w0 w2) := HB1.out.trans (hb2.mono HB1.out.size)
        have HGOOD : Hid (goodS S = true) := hg
        have HG12 : Hid (W1.grownBy w2 (some b)) := below_grow _ hb2
        have HKM2 : Hid (Km w2 b ks) := HKM1.out.below hb2
        obtain ⟨y0, y1, y2, hlt2⟩ := HKEEP.out w2 HG12.out
        clear hg hb2 x0 x1 x2
        by_cases hm0 : S.m = 0
        · have hmz : ((S.m : Int) == 0) = true := by simp; omega
          have HM0 : Hid (S.m = 0) := hm0
          clear hm0
          go_wp2_with fail
          go_ret
          have hh : hgt S = 0 := by rw [hgt_at, HM0.out]; rfl
          refine ⟨HG2.out, .inl ⟨?_, ret_int (by rw [hh]; rfl), ks, HKM2.out, fun q hq => .inl hq⟩⟩
          exact (HF.out _).2 ⟨HALL.out.2 ⟨HGOOD.out, fun i hi => by have := HM0.out; omega⟩, by omega⟩
        · have hpos : 0 < S.m := by omega
          obtain ⟨rfl, _⟩ := hma hpos
          have hmz : ((S.m : Int) == 0) = false := by simp; omega
          have hmz' : ¬ S.m = 0 := hm0
          have HKL : Hid (Calls Tryd.prog 45 #[.agg #[.int .i64 S.kind, .slice a S.n c, .slice (some ⟨b', off', none⟩) S.m c']] w2 fun e w' => e = .returned (.agg #[.pointer (some (keyS S M).1), .int .i64 (S.m : Int)]) ∧ Below w2.heap.size w2 w') := by
            have h := kidListOf_any S M w2 (HIN.out.below HB2.out) hpos
            rwa [HV.out] at h
          obtain ⟨kp, hkp⟩ : ∃ kp, (keyS S M).1 = kp := ⟨_, rfl⟩
          have HKP : Hid (keyS S M = (kp, S.m)) := by rw [← hkp]; rfl
          rw [hkp] at HKL
          clear hkp hm0
          go_wp2_with fail
          refine HKL.out.mono ?_
          rintro e w3 ⟨rfl, hb3⟩
          obtain ⟨W4, hW4⟩ : ∃ W4, W4 = w3.alloc (.cells #[.pointer (some kp), .int .i64 (S.m : Int)] 66) := ⟨_, rfl⟩
          have hb4 : Below w3.heap.size w3 W4 := by rw [hW4]; exact below_new _ _
          have hs4 : W4.heap.size = w3.heap.size + 1 := by rw [hW4]; exact size_new _ _
          have hb24 := hb3.trans (hb4.mono hb3.size)
          have HB4 : Hid (Below w0.heap.size w0 W4) := HB2.out.trans (hb24.mono HB2.out.size)
          have HG4 : Hid (w.grownBy W4 (some b)) := HG2.out.trans (below_grow _ hb24)
          have HG14 : Hid (W1.grownBy W4 (some b)) := HG12.out.trans (below_grow _ hb24)
          have HKM4 : Hid (Km W4 b ks) := HKM2.out.below hb24
          have hs23 := hb3.size
          have hbb : b < w3.heap.size := by have := HKM2.out.lt; omega
          have HKB : Hid (∀ V, W4.grownBy V (some b) → V.cell? ⟨w3.heap.size, 0, none⟩ = some (.pointer (some kp)) ∧ V.cell? ⟨w3.heap.size, 1, none⟩ = some (.int .i64 (S.m : Int)) ∧ w3.heap.size < V.heap.size) := fun V hg => by
            have e := hg.block w3.heap.size (by omega) (by simp; omega)
            refine ⟨(World.cell?_of_block (w := W4) (a := ⟨w3.heap.size, 0, none⟩) e).trans ?_, (World.cell?_of_block (w := W4) (a := ⟨w3.heap.size, 1, none⟩) e).trans ?_, by have := hg.size; omega⟩
            · rw [hW4]; simp [go_sem]
            · rw [hW4]; simp [go_sem]
          have HKOK : Hid (∀ V, Below w0.heap.size w0 V → KOk V (kp, S.m)) := fun V hb => by
            have := (key_soft HIN.out hpos).below hb
            rwa [HKP.out] at this
          have hlook := HKM4.out.look (HKS.out.ok HB4.out) (HKOK.out _ HB4.out)
          simp only [keyV] at hlook
          rw [hW4] at hlook
          obtain ⟨z0, z1, z2, hlt4⟩ := HKEEP.out W4 HG14.out
          rw [hW4] at z0 z1 z2
          clear hb3 hb24 y0 y1 y2
          rcases hlook with ⟨hl, hnone⟩ | ⟨v, hl, hmem⟩
          · have HNONE : Hid (∀ v, ((kp, S.m), v) ∉ ks) := hnone
            clear hnone
            go_wp2_with fail
            rw [← hW4]
            clear hW4 hl z0 z1 z2
            go_loopw [8, 34] (fun dp ix wr => ∃ (j dn : Nat) (ks1 : List ((Addr × Nat) × Nat)), j ≤ S.m ∧ ix = .int .i64 j ∧ dp = .int .i64 dn ∧ dn ≤ 1048577 ∧ Hid (dn = maxN (fun i => 1 + hgt (S.kidAt i)) j ∧ (∀ i, i < j → formB (59 - ar) (S.kidAt i) = true) ∧ W4.grownBy wr (some b) ∧ Km wr b ks1 ∧ ∀ q ∈ ks1, q ∈ ks ∨ ∃ D N, Wit w0 q D N ∧ szK D < szK S)) (fun _ ix _ => S.m - (intOf ix).toNat)
            case atStart => exact ⟨0, 0, ks, Nat.zero_le _, rfl, rfl, by omega, rfl, fun i hi => absurd hi (Nat.not_lt_zero _), ⟨rfl, rfl, rfl, Nat.le_refl _, fun _ _ _ => rfl⟩, HKM4.out, fun q hq => .inl hq⟩
            case round =>
              obtain ⟨j, dn, ks1, hj, rfl, rfl, hdn, HR⟩ := hrel
              have HBR : Hid (Below w0.heap.size w0 wr) := grown_keep HB4.out HR.out.2.2.1 hlo
              have HKS1 : Hid (KsW w0 ks1) := fun q hq => by
                rcases HR.out.2.2.2.2 q hq with h | ⟨D, N, h, _⟩
                · exact HKS.out q h
                · exact ⟨D, N, h⟩
              by_cases hlt : j < S.m
              · have hltz : (j : Int) < (S.m : Int) := by omega
                obtain ⟨⟨k0, k1, k2⟩, hink⟩ := HKID.out j hlt
                obtain ⟨r1, r2, r3, r4, r5, r6, t1, t2⟩ := hink.slices
                rw [t1] at k1
                rw [t2] at k2
                have q0 := (HBR.out.cell (p := ⟨b', off' + j * 3, none⟩) (World.block_lt_of_cell? _ _ k0)).trans k0
                have q1 := (HBR.out.cell (p := ⟨b', off' + j * 3 + 1, none⟩) (World.block_lt_of_cell? _ _ k1)).trans k1
                have q2 := (HBR.out.cell (p := ⟨b', off' + j * 3 + 2, none⟩) (World.block_lt_of_cell? _ _ k2)).trans k2
                obtain ⟨W5, hW5⟩ : ∃ W5, W5 = wr.alloc (.cells #[.int .i64 (S.kidAt j).kind, .slice r1 r2 r3, .slice r4 r5 r6] 30) := ⟨_, rfl⟩
                have hb5 : Below wr.heap.size wr W5 := by rw [hW5]; exact below_new _ _
                have HB5 : Hid (Below w0.heap.size w0 W5) := HBR.out.trans (hb5.mono HBR.out.size)
                have HG45 : Hid (W4.grownBy W5 (some b)) := HR.out.2.2.1.trans (below_grow _ hb5)
                have HC : Hid (Calls Tryd.prog 32 #[.map (some b), .agg #[.int .i64 (S.kidAt j).kind, .slice r1 r2 r3, .slice r4 r5 r6], .int .i64 ((ar : Int) + 1)] W5 (CkRes w0 b ks1 (S.kidAt j) (ar + 1) t ea W5)) := by
                  have h := HIH.out j hlt W5 ks1 HB5.out (HR.out.2.2.2.1.below hb5) HKS1.out
                  rwa [vx, t1, t2] at h
                have hh20 : hgt (S.kidAt j) ≤ 1048576 := by
                  have h1 := hgt_le (S.kidAt j)
                  have h2 := kid_cnt S hlt
                  omega
                obtain ⟨hk, hhk⟩ : ∃ hk : Nat, hgt (S.kidAt j) = hk := ⟨_, rfl⟩
                have HHK : Hid (hgt (S.kidAt j) = hk) := hhk
                rw [hhk] at hh20
                clear k0 k1 k2 hink t1 t2 hhk
                go_wp2_with fail
                rw [← hW5]
                clear hW5
                refine HC.out.mono ?_
                rintro e w6 ⟨hg6, ⟨hf6, rfl, ks2, hkm2, hks2⟩ | ⟨hf6, rfl⟩⟩
                · rw [HHK.out]
                  have HR6 : Hid ((max dn (1 + hk)) = maxN (fun i => 1 + hgt (S.kidAt i)) (j + 1) ∧ (∀ i, i < j + 1 → formB (59 - ar) (S.kidAt i) = true) ∧ W4.grownBy w6 (some b) ∧ Km w6 b ks2 ∧ ∀ q ∈ ks2, q ∈ ks ∨ ∃ D N, Wit w0 q D N ∧ szK D < szK S) := by
                    refine ⟨by simp only [maxN]; rw [← HR.out.1, HHK.out], fun i hi => ?_, HG45.out.trans hg6, hkm2, fun q hq => ?_⟩
                    · by_cases e : i = j
                      · subst e
                        rw [show 59 - ar = 60 - (ar + 1) by omega]; exact hf6
                      · exact HR.out.2.1 i (by omega)
                    · rcases hks2 q hq with h | ⟨D, N, h1, h2⟩
                      · exact HR.out.2.2.2.2 q h
                      · exact .inr ⟨D, N, h1, by have := kid_szK S hlt; omega⟩
                  have hmx := maxI dn (1 + hk)
                  have hm1 : max dn (1 + hk) ≤ 1048577 := by omega
                  clear hg6 hf6 hkm2 hks2 q0 q1 q2
                  go_wp2_with fail
                  all_goals
                    go_roundw
                    case rel => exact ⟨j + 1, max dn (1 + hk), ks2, by omega, by go_num, by first | rfl | (congr 1; omega) | go_num, hm1, HR6.out⟩
                    case measure => simp [intOf]; omega
                · have HNO : Hid (formB (60 - ar) S = false) := Bool.eq_false_iff.2 (fun e => by
                    obtain ⟨f1, f2⟩ := (HF.out _).1 e
                    have g1 := (HALL.out.1 f1).2 j hlt
                    have g2 : hgt (S.kidAt j) < 60 - (ar + 1) := by
                      rw [hgt_at, maxN_lt (by omega)] at f2
                      have := f2 j hlt
                      omega
                    rw [(form_iff _ _).2 ⟨g1, g2⟩] at hf6
                    cases hf6)
                  exact ⟨rfl, HBAD.out _ HNO.out _ ((HG4.out.trans HG45.out).trans hg6) rfl⟩
              · obtain rfl : j = S.m := by omega
                have HH : Hid (hgt S = dn) := by rw [Hid, hgt_at, HR.out.1]
                have HFS : Hid (formB (60 - ar) S = true) := by
                  refine (HF.out _).2 ⟨HALL.out.2 ⟨HGOOD.out, fun i hi => ((form_iff _ _).1 (HR.out.2.1 i hi)).1⟩, ?_⟩
                  rw [hgt_at, maxN_lt (by omega)]
                  intro i hi
                  have := ((form_iff _ _).1 (HR.out.2.1 i hi)).2
                  omega
                have hd59 : (ar : Int) + (dn : Int) ≤ 59 := by
                  have := ((HF.out _).1 HFS.out).2
                  rw [HH.out] at this
                  omega
                have hnot : ∀ v, ((kp, S.m), v) ∉ ks1 := fun v hv => by
                  rcases HR.out.2.2.2.2 _ hv with h | ⟨D, N, h1, h2⟩
                  · exact HNONE.out v h
                  · have := (h1.same HIN.out hpos (by rw [HKP.out])).1
                    omega
                obtain ⟨w7, hput, hkm7, hg7⟩ := HR.out.2.2.2.1.put (HKS1.out.ok HBR.out) (HKOK.out _ HBR.out) hnot dn
                simp only [keyV] at hput
                have HB7 : Hid (Below w0.heap.size w0 w7) := grown_keep HBR.out hg7 hlo
                have HG7 : Hid (w.grownBy w7 (some b)) := (HG4.out.trans HR.out.2.2.1).trans hg7
                have HKM7 : Hid (Km w7 b (((kp, S.m), dn) :: ks1)) := hkm7
                have HNEW : Hid (Wit w0 ((kp, S.m), dn) S M) := ⟨HIN.out, hpos, HKP.out.symm, (HALL.out.1 ((HF.out _).1 HFS.out).1).2, HH.out⟩
                obtain ⟨u0, u1, hu⟩ := HKB.out wr HR.out.2.2.1
                clear hkm7 hg7 hnot
                go_wp2_with fail
                refine (need_true _).mono ?_
                rintro e w8 ⟨rfl, hw8⟩
                subst w8
                go_wp2_with fail
                go_ret
                refine ⟨HG7.out, .inl ⟨HFS.out, ret_int (by rw [HH.out]), _, HKM7.out, fun q hq => ?_⟩⟩
                rcases List.mem_cons.1 hq with rfl | hq
                · exact .inr ⟨S, M, HNEW.out, szK_le S⟩
                · rcases HR.out.2.2.2.2 q hq with h | ⟨D, N, h1, h2⟩
                  · exact .inl h
                  · exact .inr ⟨D, N, h1, by have := szK_le S; omega⟩
          · obtain ⟨D, N, hWit⟩ := HKS.out _ hmem
            obtain ⟨_, hh, hall⟩ := hWit.same HIN.out hpos (by rw [HKP.out])
            have HH : Hid (hgt S = v ∧ allB S = true) := ⟨hh, HALL.out.2 ⟨HGOOD.out, hall⟩⟩
            have hv20 : v ≤ 1048577 := by
              have := hgt_le S
              omega
            clear hmem hWit hh hall
            by_cases hd : ar + v ≤ 59
            · have hdz : (ar : Int) + (v : Int) ≤ 59 := by omega
              go_wp2_with fail
              rw [← hW4]
              clear hW4 hl z0 z1 z2
              refine (need_true _).mono ?_
              rintro e w5 ⟨rfl, hw5⟩
              subst w5
              go_wp2_with fail
              go_ret
              exact ⟨HG4.out, .inl ⟨(HF.out _).2 ⟨HH.out.2, by rw [HH.out.1]; omega⟩, ret_int (by rw [HH.out.1]), ks, HKM4.out, fun q hq => .inl hq⟩⟩
            · have hdz : ¬ (ar : Int) + (v : Int) ≤ 59 := by omega
              have hdd : decide ((ar : Int) + (v : Int) ≤ 59) = false := by simpa using hdz
              go_wp2_with fail
              rw [← hW4]
              clear hW4 hl z0 z1 z2
              refine (need_false _ t ea (HERR.out _ HB4.out)).mono ?_
              rintro e w5 ⟨rfl, hw5⟩
              subst w5
              exact ⟨rfl, HBAD.out _ (Bool.eq_false_iff.2 (fun e => by have := ((HF.out _).1 e).2; rw [HH.out.1] at this; omega)) _ HG4.out rfl⟩
      · have HNO : Hid (formB (60 - ar) S = false) := Bool.eq_false_iff.2 (fun e => by
          have := (HALL.out.1 ((HF.out _).1 e).1).1
          rw [hg] at this; cases this)
        exact ⟨rfl, HBAD.out _ HNO.out _ (HG1.out.trans (below_grow _ hb2)) rfl⟩
end Go.Proofs.YtiphmmgfmiiilaaDoor

