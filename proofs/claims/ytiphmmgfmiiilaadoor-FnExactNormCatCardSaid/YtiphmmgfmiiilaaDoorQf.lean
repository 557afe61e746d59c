/- makeCat, and impl's NormCat. -/
import Derived.Test.YtiphmmgfmiiilaaDoorQe
import Derived.Test.YtiphmmgfmiiilaaDoorQc
namespace Go.Proofs.YtiphmmgfmiiilaaDoor
open Go.RowKit Go.Shelf
set_option linter.unusedVariables false
set_option linter.unusedSimpArgs false

set_option maxRecDepth 100000 in
set_option maxHeartbeats 8000000 in
theorem makeCat_any (A : Sh) : ∀ (C : Sh) (M N : Mx) (w : World) (P : Nat → Prop), In P w A M → In P w C N → (∀ k, P k → k < w.heap.size) → allB A = true → Calls Tryd.prog 20 #[vx A M, vx C N] w (ShResB P (catR A C) w) := by
  induction A using Sh.ind2 with
  | h A ih =>
    intro C M N w P hA hC hP hall
    obtain ⟨k0, hk0, hBt, hlt, hR⟩ : ∃ k0 : Nat, k0 < 5 ∧ (fun i : Nat => if i = 0 then (noB A || noB C) else if i = 1 then A.kind == 2 else if i = 2 then C.kind == 2 else if i = 3 then A.kind == 3 else true) k0 = true ∧ (∀ i, i < k0 → (fun i : Nat => if i = 0 then (noB A || noB C) else if i = 1 then A.kind == 2 else if i = 2 then C.kind == 2 else if i = 3 then A.kind == 3 else true) i = false) ∧ (fun i : Nat => if i = 0 then zeroS 1 else if i = 1 then C else if i = 2 then A else if i = 3 then catK A C else twoS 3 A C) k0 = catR A C := by
      cases h0 : (noB A || noB C) with
      | true => exact ⟨0, by omega, by simp, fun i hi => absurd hi (Nat.not_lt_zero _), by simp [catR_no h0]⟩
      | false =>
        by_cases h2 : A.kind = 2
        · refine ⟨1, by omega, by simp [h2], fun i hi => ?_, by simp [catR_e1 h0 h2]⟩
          obtain rfl : i = 0 := by omega
          simp
        · by_cases hb : C.kind = 2
          · refine ⟨2, by omega, by simp [hb], fun i hi => ?_, by simp [catR_e2 h0 h2 hb]⟩
            rcases (show i = 0 ∨ i = 1 by omega) with rfl | rfl
            · simp
            · simp [h2]
          · by_cases h3 : A.kind = 3
            · refine ⟨3, by omega, by simp [h3], fun i hi => ?_, by simp [catK, h3, catR_cat h0 h3 hb (good3 hall h3)]⟩
              rcases (show i = 0 ∨ i = 1 ∨ i = 2 by omega) with rfl | rfl | rfl
              · simp
              · simp [h2]
              · simp [hb]
            · refine ⟨4, by omega, by simp, fun i hi => ?_, by simp [catR_two h0 h2 hb h3]⟩
              rcases (show i = 0 ∨ i = 1 ∨ i = 2 ∨ i = 3 by omega) with rfl | rfl | rfl | rfl
              · simp
              · simp [h2]
              · simp [hb]
              · simp [h3]
    obtain ⟨a, c, a', c', hvA⟩ := hA.value'
    obtain ⟨b, d, b', d', hvC⟩ := hC.value'
    obtain ⟨W, hW⟩ : ∃ W, W = (((w.alloc (.cells #[.int .i64 A.kind, .slice a A.n c, .slice a' A.m c'] 30)).alloc (.cells #[.int .i64 C.kind, .slice b C.n d, .slice b' C.m d'] 30)).alloc (.cells #[.int .i64 0, .slice none 0 0, .slice none 0 0] 30)).alloc (.cells #[.func (.func 34) #[] #[], .func (.func 35) #[] #[], .func (.func 36) #[] #[], .func (.func 37) #[] #[], .func (.func 38) #[] #[]] 70) := ⟨_, rfl⟩
    have hbW : Below w.heap.size w W := by rw [hW]; exact (below_three _ _ _ _).trans ((below_new _ _).mono (by simp; omega))
    have hsW : W.heap.size = w.heap.size + 4 := by rw [hW]; simp
    have HFR : Hid (Calls Tryd.prog 33 #[.agg #[.int .i64 A.kind, .slice a A.n c, .slice a' A.m c', .int .i64 C.kind, .slice b C.n d, .slice b' C.m d'], .slice (some ⟨w.heap.size + 1 + 1 + 1, 0, none⟩) 5 5] W (ShResB P (catR A C) W)) := by
      have hh := firstRule2_any (B0 := P) A C M N W (hA.below hbW) (hC.below hbW) (fun k hk => by have := hP k hk; omega) 5 (w.heap.size + 1 + 1 + 1) (fun i : Nat => if i = 0 then 34 else if i = 1 then 35 else if i = 2 then 36 else if i = 3 then 37 else 38) (fun i : Nat => if i = 0 then zeroS 1 else if i = 1 then C else if i = 2 then A else if i = 3 then catK A C else twoS 3 A C) (fun i : Nat => if i = 0 then (noB A || noB C) else if i = 1 then A.kind == 2 else if i = 2 then C.kind == 2 else if i = 3 then A.kind == 3 else true) k0 hk0 (by omega)
        (fun i hi => by
          rw [hW]
          rcases (show i = 0 ∨ i = 1 ∨ i = 2 ∨ i = 3 ∨ i = 4 by omega) with rfl | rfl | rfl | rfl | rfl
          · simp [go_sem]
          · simp [go_sem]
          · simp [go_sem]
          · simp [go_sem]
          · simp [go_sem])
        (fun i hi => by
          rcases (show i = 0 ∨ i = 1 ∨ i = 2 ∨ i = 3 ∨ i = 4 by omega) with rfl | rfl | rfl | rfl | rfl
          · exact enters34
          · exact enters35
          · exact enters36
          · exact enters37
          · exact enters38)
        (fun i hi w1 hb1 => by
          have h1 : In P w1 A M := (hA.below hbW).below hb1
          have h2 : In P w1 C N := (hC.below hbW).below hb1
          rcases (show i = 0 ∨ i = 1 ∨ i = 2 ∨ i = 3 ∨ i = 4 by omega) with rfl | rfl | rfl | rfl | rfl
          · exact catOfNothing_any A C M N w1 h1 h2
          · exact catBehindEmpty_any A C M N w1 h1 h2
          · exact catAheadOfEmpty_any A C M N w1 h1 h2
          · exact catOfCat_any A C M N w1 h1 h2 (fun k hk => by have := hP k hk; have := hb1.size; omega) hall (fun i hi C' M' N' V P' g1 g2 g3 => ih i hi C' M' N' V P' g1 g2 g3 (kid_all hall hi))
          · exact catOfBoth_any A C M N w1 h1 h2)
        hBt hlt
      dsimp only at hR
      rw [hR, vx2_eq hvA hvC] at hh
      exact hh
    have HRBW : Hid (Rb W (w.heap.size + 1 + 1)) := by
      have := ((Rb.new ((w.alloc (.cells #[.int .i64 A.kind, .slice a A.n c, .slice a' A.m c'] 30)).alloc (.cells #[.int .i64 C.kind, .slice b C.n d, .slice b' C.m d'] 30)) (.int .i64 0) (.slice none 0 0) (.slice none 0 0))).of_block ((below_new (((w.alloc (.cells #[.int .i64 A.kind, .slice a A.n c, .slice a' A.m c'] 30)).alloc (.cells #[.int .i64 C.kind, .slice b C.n d, .slice b' C.m d'] 30)).alloc (.cells #[.int .i64 0, .slice none 0 0, .slice none 0 0] 30)) (.cells #[.func (.func 34) #[] #[], .func (.func 35) #[] #[], .func (.func 36) #[] #[], .func (.func 37) #[] #[], .func (.func 38) #[] #[]] 70)).block _ (by simp))
      rw [size_new, size_new, ← hW] at this
      exact this
    have HBW : Hid (Below w.heap.size w W) := hbW
    rw [hvA, hvC]
    clear hvA hvC hA hC hbW hBt hlt hR ih hall
    go_enter Tryd.func20, Tryd.ntmps20
    go_wp2_with fail
    rw [← hW]
    clear hW
    refine HFR.out.mono ?_
    rintro e w1 ⟨M1, rfl, hin1, hb1⟩
    obtain ⟨x1, x2, x3, x4, hv1⟩ := hin1.value'
    have HV1 : Hid (vx (catR A C) M1 = .agg #[.int .i64 (catR A C).kind, .slice x1 (catR A C).n x2, .slice x3 (catR A C).m x4]) := hv1
    rw [hv1]
    have HIN1 : Hid (In (fun k => P k ∨ W.heap.size ≤ k) w1 (catR A C) M1) := hin1
    have HRB1 : Hid (Rb w1 (w.heap.size + 1 + 1)) := HRBW.out.of_block (hb1.block _ HRBW.out.lt)
    have HBW1 : Hid (Below w.heap.size w w1) := HBW.out.trans (hb1.mono HBW.out.size)
    obtain ⟨⟨b0', e0⟩, ⟨b1', e1⟩, ⟨b2', e2⟩, ef⟩ := HRB1.out.cells
    clear hin1 hv1 hb1
    go_wp2_with fail
    refine bodyPost_ret (v := .agg #[.int .i64 (catR A C).kind, .slice x1 (catR A C).n x2, .slice x3 (catR A C).m x4]) (by simp [results, Tryd.results20, go_sem, e0, e1, e2]) rfl ?_
    refine ⟨M1, by rw [HV1.out], (in3 (fun x hx => ?_) _ _ _ HIN1.out).mono (fun x hx => hx.imp (fun h => h) (fun h => by omega)), ((HBW1.out.setCell (by show w.heap.size ≤ w.heap.size + 1 + 1; omega) _).setCell (by show w.heap.size ≤ w.heap.size + 1 + 1; omega) _).setCell (by show w.heap.size ≤ w.heap.size + 1 + 1; omega) _⟩
    rcases hx with hx | hx
    · have := hP x hx; omega
    · omega

set_option maxRecDepth 100000 in
set_option maxHeartbeats 8000000 in
theorem implNormCat_any (A C : Sh) (M N : Mx) (w : World) (t : TypeId) (ea : Addr) (hE : Err w t ea) (hA : In (Soft w) w A M) (hC : In (Soft w) w C N) (hcnt : cnt A + cnt C ≤ 1048576) : Calls Tryd.prog 7 #[vx A M, vx C N] w (OwnRes (normR2 catR A C) w) := by
  obtain ⟨a, _, _, c, a', _, _, c', e1, _, _, _, e2, _⟩ := hA.parts
  obtain ⟨b, _, _, d, b', _, _, d', f1, _, _, _, f2, _⟩ := hC.parts
  have hvA : vx A M = .agg #[.int .i64 A.kind, .slice a A.n c, .slice a' A.m c'] := by rw [vx, e1, e2]
  have hvC : vx C N = .agg #[.int .i64 C.kind, .slice b C.n d, .slice b' C.m d'] := by rw [vx, f1, f2]
  obtain ⟨W, hW⟩ : ∃ W, W = (((w.alloc (.cells #[.int .i64 A.kind, .slice a A.n c, .slice a' A.m c'] 30)).alloc (.cells #[.int .i64 C.kind, .slice b C.n d, .slice b' C.m d'] 30)).alloc (.cells #[.int .i64 0, .slice none 0 0, .slice none 0 0] 30)).alloc (.cells #[.int .i64 A.kind, .slice a A.n c, .slice a' A.m c', .int .i64 C.kind, .slice b C.n d, .slice b' C.m d'] 30) := ⟨_, rfl⟩
  have hbW : Below w.heap.size w W := by rw [hW]; exact (below_three _ _ _ _).trans ((below_new _ _).mono (by simp; omega))
  have hsW : W.heap.size = w.heap.size + 4 := by rw [hW]; simp
  have hgiv : Giv W (w.heap.size + 1 + 1 + 1) [(A, M), (C, N)] := ⟨fun i p hp => by
    match i, hp with
    | 0, hp =>
      obtain rfl : (A, M) = p := by simpa using hp
      refine ⟨⟨?_, ?_, ?_⟩, (hA.below hbW).mono (fun k hk => hk.below hbW), by show cnt A ≤ _; omega⟩
      · rw [hW]; simp [go_sem]
      · rw [hW, show (A, M).2.sv = .slice a A.n c from e1]; simp [go_sem]
      · rw [hW, show (A, M).2.kv = .slice a' A.m c' from e2]; simp [go_sem]
    | 1, hp =>
      obtain rfl : (C, N) = p := by simpa using hp
      refine ⟨⟨?_, ?_, ?_⟩, (hC.below hbW).mono (fun k hk => hk.below hbW), by show cnt C ≤ _; omega⟩
      · rw [hW]; simp [go_sem]
      · rw [hW, show (C, N).2.sv = .slice b C.n d from f1]; simp [go_sem]
      · rw [hW, show (C, N).2.kv = .slice b' C.m d' from f2]; simp [go_sem]
    | i + 2, hp => simp at hp⟩
  have HCN : Hid (Calls Tryd.prog 18 #[.slice (some ⟨w.heap.size + 1 + 1 + 1, 0, none⟩) 2 2] W fun e w' => e = .returned (.bool (formB 60 A && formB 60 C)) ∧ Below W.heap.size W w') := by
    have hh := canNorm_any W t ea (hE.below hbW) (w.heap.size + 1 + 1 + 1) [(A, M), (C, N)] hgiv (by simp)
    rwa [show givB [(A, M), (C, N)] = (formB 60 A && formB 60 C) by simp [givB]] at hh
  have hX : (W.cell? ⟨w.heap.size, 0, none⟩ = some (.int .i64 A.kind) ∧ W.cell? ⟨w.heap.size, 1, none⟩ = some (.slice a A.n c) ∧ W.cell? ⟨w.heap.size, 2, none⟩ = some (.slice a' A.m c')) ∧ (W.cell? ⟨w.heap.size + 1, 0, none⟩ = some (.int .i64 C.kind) ∧ W.cell? ⟨w.heap.size + 1, 1, none⟩ = some (.slice b C.n d) ∧ W.cell? ⟨w.heap.size + 1, 2, none⟩ = some (.slice b' C.m d')) ∧ Rb W (w.heap.size + 1 + 1) := by
    refine ⟨?_, ?_, ?_⟩
    · rw [hW]; exact ⟨by simp [go_sem], by simp [go_sem], by simp [go_sem]⟩
    · rw [hW]; exact ⟨by simp [go_sem], by simp [go_sem], by simp [go_sem]⟩
    · have := ((Rb.new ((w.alloc (.cells #[.int .i64 A.kind, .slice a A.n c, .slice a' A.m c'] 30)).alloc (.cells #[.int .i64 C.kind, .slice b C.n d, .slice b' C.m d'] 30)) (.int .i64 0) (.slice none 0 0) (.slice none 0 0))).of_block ((below_new (((w.alloc (.cells #[.int .i64 A.kind, .slice a A.n c, .slice a' A.m c'] 30)).alloc (.cells #[.int .i64 C.kind, .slice b C.n d, .slice b' C.m d'] 30)).alloc (.cells #[.int .i64 0, .slice none 0 0, .slice none 0 0] 30)) (.cells #[.int .i64 A.kind, .slice a A.n c, .slice a' A.m c', .int .i64 C.kind, .slice b C.n d, .slice b' C.m d'] 30)).block _ (by simp))
      rw [size_new, size_new, ← hW] at this
      exact this
  have HX : Hid (∀ V, Below W.heap.size W V → (V.cell? ⟨w.heap.size, 0, none⟩ = some (.int .i64 A.kind) ∧ V.cell? ⟨w.heap.size, 1, none⟩ = some (.slice a A.n c) ∧ V.cell? ⟨w.heap.size, 2, none⟩ = some (.slice a' A.m c')) ∧ (V.cell? ⟨w.heap.size + 1, 0, none⟩ = some (.int .i64 C.kind) ∧ V.cell? ⟨w.heap.size + 1, 1, none⟩ = some (.slice b C.n d) ∧ V.cell? ⟨w.heap.size + 1, 2, none⟩ = some (.slice b' C.m d')) ∧ Hid (Rb V (w.heap.size + 1 + 1)) ∧ w.heap.size + 2 < V.heap.size) := fun V hb => by
    obtain ⟨⟨x0, x1, x2⟩, ⟨y0, y1, y2⟩, hr⟩ := hX
    have k : ∀ bb o v, W.cell? ⟨bb, o, none⟩ = some v → V.cell? ⟨bb, o, none⟩ = some v := fun bb o v h => (hb.cell (p := ⟨bb, o, none⟩) (World.block_lt_of_cell? _ _ h)).trans h
    exact ⟨⟨k _ _ _ x0, k _ _ _ x1, k _ _ _ x2⟩, ⟨k _ _ _ y0, k _ _ _ y1, k _ _ _ y2⟩, hr.of_block (hb.block _ hr.lt), by have := hb.size; omega⟩
  have HBW : Hid (Below w.heap.size w W) := hbW
  have HLAST : Hid (∀ (V : World) (u0 u1 u2 : Value), Below w.heap.size w V → Below w.heap.size w (((V.setCell ⟨w.heap.size + 1 + 1, 0, none⟩ u0).setCell ⟨w.heap.size + 1 + 1, 1, none⟩ u1).setCell ⟨w.heap.size + 1 + 1, 2, none⟩ u2)) := fun V u0 u1 u2 hb => ((hb.setCell (by show w.heap.size ≤ w.heap.size + 1 + 1; omega) _).setCell (by show w.heap.size ≤ w.heap.size + 1 + 1; omega) _).setCell (by show w.heap.size ≤ w.heap.size + 1 + 1; omega) _
  have HIA : Hid (In (· < w.heap.size) w A M) := hA.mono (fun k hk => hk.lt)
  have HIC : Hid (In (· < w.heap.size) w C N) := hC.mono (fun k hk => hk.lt)
  have HCNT : Hid (cnt (catR A C) ≤ 2097152) := by have := catR_cnt A C; rw [Hid]; omega
  cases hf : (formB 60 A && formB 60 C) with
  | false =>
    rw [hf] at HCN
    have HR : Hid (normR2 catR A C = zeroS 0) := normR2_false hf
    rw [hvA, hvC]
    clear hvA hvC hf hA hC e1 e2 f1 f2 hX hgiv hE hbW
    go_enter Tryd.func7, Tryd.ntmps7
    go_wp2_with fail
    rw [← hW]
    clear hW
    refine HCN.out.mono ?_
    rintro e w1 ⟨rfl, hb1⟩
    obtain ⟨⟨x0, x1, x2⟩, ⟨y0, y1, y2⟩, HR1, hlt1⟩ := HX.out w1 hb1
    obtain ⟨⟨_, d0⟩, ⟨_, d1⟩, ⟨_, d2⟩, df⟩ := HR1.out.cells
    have HB1 : Hid (Below w.heap.size w w1) := HBW.out.trans (hb1.mono HBW.out.size)
    clear hb1
    go_wp2_with fail
    refine bodyPost_ret (v := .agg #[.int .i64 0, .slice none 0 0, .slice none 0 0]) (by simp [results, Tryd.results7, go_sem, d0, d1, d2]) rfl ?_
    rw [HR.out]
    exact ⟨Mx.no, rfl, zero_own _ _ _, HLAST.out _ _ _ _ HB1.out⟩
  | true =>
    rw [hf] at HCN
    have HR : Hid (normR2 catR A C = catR A C) := normR2_true hf
    have hfa : formB 60 A = true := by simp only [Bool.and_eq_true] at hf; exact hf.1
    have HG : Hid (∀ w1, Below w.heap.size w w1 → Calls Tryd.prog 20 #[.agg #[.int .i64 A.kind, .slice a A.n c, .slice a' A.m c'], .agg #[.int .i64 C.kind, .slice b C.n d, .slice b' C.m d']] w1 (ShResB (· < w.heap.size) (catR A C) w1)) := fun w1 hb => by
      have hh := makeCat_any A C M N w1 (· < w.heap.size) (HIA.out.below hb) (HIC.out.below hb) (fun k hk => by have := hb.size; omega) ((form_iff A 60).1 hfa).1
      rwa [hvA, hvC] at hh
    have HC2 : Hid (∀ M1 w1, In AnyB w1 (catR A C) M1 → Calls Tryd.prog 19 #[vx (catR A C) M1] w1 (OwnRes (catR A C) w1)) := fun M1 w1 h1 => newRex_any _ M1 w1 h1 HCNT.out
    rw [hvA, hvC]
    clear hvA hvC hf hfa hA hC e1 e2 f1 f2 hX hgiv hE hbW
    go_enter Tryd.func7, Tryd.ntmps7
    go_wp2_with fail
    rw [← hW]
    clear hW
    refine HCN.out.mono ?_
    rintro e w1 ⟨rfl, hb1⟩
    have HB1 : Hid (Below w.heap.size w w1) := HBW.out.trans (hb1.mono HBW.out.size)
    have HBW1 : Hid (Below W.heap.size W w1) := hb1
    obtain ⟨⟨x0, x1, x2⟩, ⟨y0, y1, y2⟩, HR1, hlt1⟩ := HX.out w1 hb1
    clear hb1
    go_wp2_with fail
    refine (HG.out w1 HB1.out).mono ?_
    rintro e w3 ⟨M3, rfl, hin3, hb3⟩
    have HI3 : Hid (In AnyB w3 (catR A C) M3) := hin3.mono (fun _ _ => trivial)
    have HBW3 : Hid (Below W.heap.size W w3) := HBW1.out.trans (hb3.mono HBW1.out.size)
    clear hin3 hb3 x0 x1 x2 y0 y1 y2
    go_wp2_with fail
    refine (HC2.out M3 w3 HI3.out).mono ?_
    rintro e w4 ⟨M4, rfl, hown4, hb4⟩
    have hlt3 : w.heap.size + 2 < w3.heap.size := (HX.out w3 HBW3.out).2.2.2
    have HBW4 : Hid (Below W.heap.size W w4) := HBW3.out.trans (hb4.mono HBW3.out.size)
    have HO4 : Hid (Own w3.heap.size w4 (catR A C) M4) := hown4
    obtain ⟨z1, z2, z3, z4, hv4⟩ := hown4.any.value'
    have HV4 : Hid (vx (catR A C) M4 = .agg #[.int .i64 (catR A C).kind, .slice z1 (catR A C).n z2, .slice z3 (catR A C).m z4]) := hv4
    rw [hv4]
    obtain ⟨_, _, HR4, hlt4⟩ := HX.out w4 HBW4.out
    obtain ⟨⟨_, d0⟩, ⟨_, d1⟩, ⟨_, d2⟩, df⟩ := HR4.out.cells
    clear hown4 hb4 hv4
    go_wp2_with fail
    refine bodyPost_ret (v := .agg #[.int .i64 (catR A C).kind, .slice z1 (catR A C).n z2, .slice z3 (catR A C).m z4]) (by simp [results, Tryd.results7, go_sem, d0, d1, d2]) rfl ?_
    rw [HR.out]
    exact ⟨M4, by rw [HV4.out], (own3 (b := w.heap.size + 1 + 1) (by omega) _ _ _ HO4.out).mono (by omega), HLAST.out _ _ _ _ (HBW.out.trans (HBW4.out.mono HBW.out.size))⟩
end Go.Proofs.YtiphmmgfmiiilaaDoor

