/- The walk of the model's l4Cat. -/
import Derived.Test.YtiphmmgfmiiilaaDoorQa
import Derived.Deep.RegionWith
import Derived.OrdersHeld
namespace Go.Proofs.YtiphmmgfmiiilaaDoor
open Go.RowKit Go.Shelf
set_option linter.unusedVariables false
set_option linter.unusedSimpArgs false

set_option maxRecDepth 100000 in
set_option maxHeartbeats 8000000 in
theorem l4Cat_any (A : Sh) : ∀ (B : Sh) (M N : Mx) (w : World) (P : Nat → Prop), In P w A M → In P w B N → (∀ k, P k → k < w.heap.size) → allB A = true → Calls Tryd.prog 15 #[vx A M, vx B N] w (ShResB P (catR A B) w) := by
  induction A using Sh.ind2 with
  | h A ih =>
    intro B M N w P hA hB hP hall
    obtain ⟨a, _, _, c, a', ab, ao, c', e1, _, _, _, e2, hma, hml, hkk⟩ := hA.parts
    obtain ⟨b, _, _, d, b', _, _, d', f1, _, _, _, f2, _⟩ := hB.parts
    have hvA : vx A M = .agg #[.int .i64 A.kind, .slice a A.n c, .slice a' A.m c'] := by rw [vx, e1, e2]
    have hvB : vx B N = .agg #[.int .i64 B.kind, .slice b B.n d, .slice b' B.m d'] := by rw [vx, f1, f2]
    have HVA : Hid (vx A M = .agg #[.int .i64 A.kind, .slice a A.n c, .slice a' A.m c']) := hvA
    have HVB : Hid (vx B N = .agg #[.int .i64 B.kind, .slice b B.n d, .slice b' B.m d']) := hvB
    have HSL : Hid ((M.sv = .slice a A.n c ∧ M.kv = .slice a' A.m c') ∧ N.sv = .slice b B.n d ∧ N.kv = .slice b' B.m d') := ⟨⟨e1, e2⟩, f1, f2⟩
    have HIA : Hid (In P w A M) := hA
    have HIB : Hid (In P w B N) := hB
    obtain ⟨W, hW⟩ : ∃ W, W = ((w.alloc (.cells #[.int .i64 A.kind, .slice a A.n c, .slice a' A.m c'] 30)).alloc (.cells #[.int .i64 B.kind, .slice b B.n d, .slice b' B.m d'] 30)).alloc (.cells #[.int .i64 0, .slice none 0 0, .slice none 0 0] 30) := ⟨_, rfl⟩
    have hbW : Below w.heap.size w W := by rw [hW]; exact below_three _ _ _ _
    have hsW : W.heap.size = w.heap.size + 3 := by rw [hW]; simp
    have hX : (W.cell? ⟨w.heap.size, 0, none⟩ = some (.int .i64 A.kind) ∧ W.cell? ⟨w.heap.size, 1, none⟩ = some (.slice a A.n c) ∧ W.cell? ⟨w.heap.size, 2, none⟩ = some (.slice a' A.m c')) ∧ (W.cell? ⟨w.heap.size + 1, 0, none⟩ = some (.int .i64 B.kind) ∧ W.cell? ⟨w.heap.size + 1, 1, none⟩ = some (.slice b B.n d) ∧ W.cell? ⟨w.heap.size + 1, 2, none⟩ = some (.slice b' B.m d')) ∧ Rb W (w.heap.size + 1 + 1) := by
      refine ⟨?_, ?_, ?_⟩
      · rw [hW]; exact ⟨by simp [go_sem], by simp [go_sem], by simp [go_sem]⟩
      · rw [hW]; exact ⟨by simp [go_sem], by simp [go_sem], by simp [go_sem]⟩
      · have := Rb.new ((w.alloc (.cells #[.int .i64 A.kind, .slice a A.n c, .slice a' A.m c'] 30)).alloc (.cells #[.int .i64 B.kind, .slice b B.n d, .slice b' B.m d'] 30)) (.int .i64 0) (.slice none 0 0) (.slice none 0 0)
        rw [size_new, size_new, ← hW] at this
        exact this
    have HX : Hid (∀ V, Below W.heap.size W V → (V.cell? ⟨w.heap.size, 0, none⟩ = some (.int .i64 A.kind) ∧ V.cell? ⟨w.heap.size, 1, none⟩ = some (.slice a A.n c) ∧ V.cell? ⟨w.heap.size, 2, none⟩ = some (.slice a' A.m c')) ∧ (V.cell? ⟨w.heap.size + 1, 0, none⟩ = some (.int .i64 B.kind) ∧ V.cell? ⟨w.heap.size + 1, 1, none⟩ = some (.slice b B.n d) ∧ V.cell? ⟨w.heap.size + 1, 2, none⟩ = some (.slice b' B.m d')) ∧ Hid (Rb V (w.heap.size + 1 + 1)) ∧ w.heap.size + 2 < V.heap.size) := fun V hb => by
      obtain ⟨⟨x0, x1, x2⟩, ⟨y0, y1, y2⟩, hr⟩ := hX
      have k : ∀ bb o v, W.cell? ⟨bb, o, none⟩ = some v → V.cell? ⟨bb, o, none⟩ = some v := fun bb o v h => (hb.cell (p := ⟨bb, o, none⟩) (World.block_lt_of_cell? _ _ h)).trans h
      exact ⟨⟨k _ _ _ x0, k _ _ _ x1, k _ _ _ x2⟩, ⟨k _ _ _ y0, k _ _ _ y1, k _ _ _ y2⟩, hr.of_block (hb.block _ hr.lt), by have := hb.size; omega⟩
    have HBW : Hid (Below w.heap.size w W) := hbW
    have HNA : Hid (∀ V, Below W.heap.size W V → Calls Tryd.prog 28 #[.agg #[.int .i64 A.kind, .slice a A.n c, .slice a' A.m c']] V fun e w' => e = .returned (.bool (noB A)) ∧ Below V.heap.size V w') := fun V hb => by
      have h := l4No_any A M V (((hA.mono (fun _ _ => trivial)).below hbW).below hb)
      rwa [hvA] at h
    have HNB : Hid (∀ V, Below W.heap.size W V → Calls Tryd.prog 28 #[.agg #[.int .i64 B.kind, .slice b B.n d, .slice b' B.m d']] V fun e w' => e = .returned (.bool (noB B)) ∧ Below V.heap.size V w') := fun V hb => by
      have h := l4No_any B N V (((hB.mono (fun _ _ => trivial)).below hbW).below hb)
      rwa [hvB] at h
    -- the ends
    have HZ : Hid ((noB A || noB B) = true → ∀ V, Below w.heap.size w V → ShResB P (catR A B) w (.returned (.agg #[.int .i64 1, .slice none 0 0, .slice none 0 0])) V) := fun h V hb => by
      rw [catR_no h]
      exact ⟨Mx.no, rfl, zero_in _ _ _, hb⟩
    have HEB : Hid ((noB A || noB B) = false → A.kind = 2 → ∀ V, Below w.heap.size w V → ShResB P (catR A B) w (.returned (.agg #[.int .i64 B.kind, .slice b B.n d, .slice b' B.m d'])) V) := fun h hk V hb => by
      rw [catR_e1 h hk]
      exact ⟨N, by rw [HVB.out], (HIB.out.below hb).mono (fun k hk => .inl hk), hb⟩
    have HEA : Hid ((noB A || noB B) = false → A.kind ≠ 2 → B.kind = 2 → ∀ V, Below w.heap.size w V → ShResB P (catR A B) w (.returned (.agg #[.int .i64 A.kind, .slice a A.n c, .slice a' A.m c'])) V) := fun h hk hb2 V hb => by
      rw [catR_e2 h hk hb2]
      exact ⟨M, by rw [HVA.out], (HIA.out.below hb).mono (fun k hk => .inl hk), hb⟩
    have HTW : Hid ((noB A || noB B) = false → A.kind ≠ 2 → B.kind ≠ 2 → A.kind ≠ 3 → ∀ V g, w.heap.size ≤ g → Below w.heap.size w V → V.cell? ⟨g, 0, none⟩ = some (.int .i64 A.kind) → V.cell? ⟨g, 1, none⟩ = some (.slice a A.n c) → V.cell? ⟨g, 2, none⟩ = some (.slice a' A.m c') → V.cell? ⟨g, 3, none⟩ = some (.int .i64 B.kind) → V.cell? ⟨g, 4, none⟩ = some (.slice b B.n d) → V.cell? ⟨g, 5, none⟩ = some (.slice b' B.m d') → ShResB P (catR A B) w (.returned (.agg #[.int .i64 3, .slice none 0 0, .slice (some ⟨g, 0, none⟩) 2 2])) V) := fun h hk hb2 h3 V g hg hb c0 c1 c2 c3 c4 c5 => by
      rw [catR_two h hk hb2 h3]
      refine ⟨twoM g M N, rfl, two_inB 3 (.inr hg) ((HIA.out.below hb).mono (fun k hk => .inl hk)) ((HIB.out.below hb).mono (fun k hk => .inl hk)) ⟨c0, ?_, ?_⟩ ⟨c3, ?_, ?_⟩, hb⟩
      · rw [HSL.out.1.1]; exact c1
      · rw [HSL.out.1.2]; exact c2
      · rw [HSL.out.2.1]; exact c4
      · rw [HSL.out.2.2]; exact c5
    have HP : Hid (∀ k, P k → k < w.heap.size) := hP
    have HALL : Hid (allB A = true) := hall
    have HKK : Hid (∀ i, i < A.m → Kid w ab (ao + i * 3) (A.kidAt i) (M.kid i) ∧ In P w (A.kidAt i) (M.kid i)) := hkk
    have hma' : 0 < A.m → a' = some ⟨ab, ao, none⟩ := fun h => (hma h).1
    rw [hvA, hvB]
    obtain ⟨nA, hnA⟩ : ∃ x, noB A = x := ⟨_, rfl⟩
    obtain ⟨nB, hnB⟩ : ∃ x, noB B = x := ⟨_, rfl⟩
    have HN : Hid (noB A = nA ∧ noB B = nB) := ⟨hnA, hnB⟩
    rw [hnA] at HNA
    rw [hnB] at HNB
    rw [hnA, hnB] at HZ HEB HEA HTW
    clear hvA hvB e1 e2 f1 f2 hA hB hX hP hall hkk hma hnA hnB hbW
    cases nA with
    | true =>
      go_enter Tryd.func15, Tryd.ntmps15
      go_wp2_with fail
      rw [← hW]
      clear hW
      refine (HNA.out W (Below.refl _ _)).mono ?_
      rintro e w1 ⟨rfl, hb1⟩
      obtain ⟨⟨x0, x1, x2⟩, ⟨y0, y1, y2⟩, HR1, hlt1⟩ := HX.out w1 hb1
      obtain ⟨⟨_, d0⟩, ⟨_, d1⟩, ⟨_, d2⟩, df⟩ := HR1.out.cells
      have HB1 : Hid (Below w.heap.size w w1) := HBW.out.trans (hb1.mono HBW.out.size)
      clear hb1
      go_wp2_with fail
      refine bodyPost_ret (v := .agg #[.int .i64 1, .slice none 0 0, .slice none 0 0]) (by simp [results, Tryd.results15, go_sem, d0, d1, d2]) rfl ?_
      exact HZ.out rfl _ (((HB1.out.setCell (by show w.heap.size ≤ w.heap.size + 1 + 1; omega) _).setCell (by show w.heap.size ≤ w.heap.size + 1 + 1; omega) _).setCell (by show w.heap.size ≤ w.heap.size + 1 + 1; omega) _)
    | false =>
      cases nB with
      | true =>
        go_enter Tryd.func15, Tryd.ntmps15
        go_wp2_with fail
        rw [← hW]
        clear hW
        refine (HNA.out W (Below.refl _ _)).mono ?_
        rintro e w1 ⟨rfl, hb1⟩
        obtain ⟨⟨x0, x1, x2⟩, ⟨y0, y1, y2⟩, HR1, hlt1⟩ := HX.out w1 hb1
        have HB1 : Hid (Below W.heap.size W w1) := hb1
        clear hb1
        go_wp2_with fail
        refine (HNB.out w1 HB1.out).mono ?_
        rintro e w2 ⟨rfl, hb2⟩
        have HB2 : Hid (Below W.heap.size W w2) := HB1.out.trans (hb2.mono HB1.out.size)
        obtain ⟨⟨u0, u1, u2⟩, ⟨v0, v1, v2⟩, HR2, hlt2⟩ := HX.out w2 HB2.out
        obtain ⟨⟨_, d0⟩, ⟨_, d1⟩, ⟨_, d2⟩, df⟩ := HR2.out.cells
        have HB0 : Hid (Below w.heap.size w w2) := HBW.out.trans (HB2.out.mono HBW.out.size)
        clear hb2 x0 x1 x2 y0 y1 y2
        go_wp2_with fail
        refine bodyPost_ret (v := .agg #[.int .i64 1, .slice none 0 0, .slice none 0 0]) (by simp [results, Tryd.results15, go_sem, d0, d1, d2]) rfl ?_
        exact HZ.out rfl _ (((HB0.out.setCell (by show w.heap.size ≤ w.heap.size + 1 + 1; omega) _).setCell (by show w.heap.size ≤ w.heap.size + 1 + 1; omega) _).setCell (by show w.heap.size ≤ w.heap.size + 1 + 1; omega) _)
      | false =>
        have HLAST : Hid (∀ (V : World) (u0 u1 u2 : Value), Below w.heap.size w V → Below w.heap.size w (((V.setCell ⟨w.heap.size + 1 + 1, 0, none⟩ u0).setCell ⟨w.heap.size + 1 + 1, 1, none⟩ u1).setCell ⟨w.heap.size + 1 + 1, 2, none⟩ u2)) := fun V u0 u1 u2 hb => ((hb.setCell (by show w.heap.size ≤ w.heap.size + 1 + 1; omega) _).setCell (by show w.heap.size ≤ w.heap.size + 1 + 1; omega) _).setCell (by show w.heap.size ≤ w.heap.size + 1 + 1; omega) _
        by_cases h2 : A.kind = 2
        · have hk2 : (A.kind == 2) = true := by simpa using h2
          have H2 : Hid (A.kind = 2) := h2
          clear h2
          go_enter Tryd.func15, Tryd.ntmps15
          go_wp2_with fail
          rw [← hW]
          clear hW
          refine (HNA.out W (Below.refl _ _)).mono ?_
          rintro e w1 ⟨rfl, hb1⟩
          obtain ⟨⟨x0, x1, x2⟩, ⟨y0, y1, y2⟩, HR1, hlt1⟩ := HX.out w1 hb1
          have HB1 : Hid (Below W.heap.size W w1) := hb1
          clear hb1
          go_wp2_with fail
          refine (HNB.out w1 HB1.out).mono ?_
          rintro e w2 ⟨rfl, hb2⟩
          have HB2 : Hid (Below W.heap.size W w2) := HB1.out.trans (hb2.mono HB1.out.size)
          obtain ⟨⟨u0, u1, u2⟩, ⟨v0, v1, v2⟩, HR2, hlt2⟩ := HX.out w2 HB2.out
          obtain ⟨⟨_, d0⟩, ⟨_, d1⟩, ⟨_, d2⟩, df⟩ := HR2.out.cells
          have HB0 : Hid (Below w.heap.size w w2) := HBW.out.trans (HB2.out.mono HBW.out.size)
          clear hb2 x0 x1 x2 y0 y1 y2
          go_wp2_with fail
          refine bodyPost_ret (v := .agg #[.int .i64 B.kind, .slice b B.n d, .slice b' B.m d']) (by simp [results, Tryd.results15, go_sem, d0, d1, d2]) rfl ?_
          exact HEB.out rfl H2.out _ (HLAST.out _ _ _ _ HB0.out)
        · have hk2 : (A.kind == 2) = false := by simpa using h2
          have H2 : Hid (A.kind ≠ 2) := h2
          clear h2
          by_cases hb2 : B.kind = 2
          · have hkb : (B.kind == 2) = true := by simpa using hb2
            have HB2' : Hid (B.kind = 2) := hb2
            clear hb2
            go_enter Tryd.func15, Tryd.ntmps15
            go_wp2_with fail
            rw [← hW]
            clear hW
            refine (HNA.out W (Below.refl _ _)).mono ?_
            rintro e w1 ⟨rfl, hb1⟩
            obtain ⟨⟨x0, x1, x2⟩, ⟨y0, y1, y2⟩, HR1, hlt1⟩ := HX.out w1 hb1
            have HB1 : Hid (Below W.heap.size W w1) := hb1
            clear hb1
            go_wp2_with fail
            refine (HNB.out w1 HB1.out).mono ?_
            rintro e w2 ⟨rfl, hb2⟩
            have HB2 : Hid (Below W.heap.size W w2) := HB1.out.trans (hb2.mono HB1.out.size)
            obtain ⟨⟨u0, u1, u2⟩, ⟨v0, v1, v2⟩, HR2, hlt2⟩ := HX.out w2 HB2.out
            obtain ⟨⟨_, d0⟩, ⟨_, d1⟩, ⟨_, d2⟩, df⟩ := HR2.out.cells
            have HB0 : Hid (Below w.heap.size w w2) := HBW.out.trans (HB2.out.mono HBW.out.size)
            clear hb2 x0 x1 x2 y0 y1 y2
            go_wp2_with fail
            refine bodyPost_ret (v := .agg #[.int .i64 A.kind, .slice a A.n c, .slice a' A.m c']) (by simp [results, Tryd.results15, go_sem, d0, d1, d2]) rfl ?_
            exact HEA.out rfl H2.out HB2'.out _ (HLAST.out _ _ _ _ HB0.out)
          · have hkb : (B.kind == 2) = false := by simpa using hb2
            have HB2' : Hid (B.kind ≠ 2) := hb2
            clear hb2
            by_cases h3 : A.kind = 3
            · have hk3 : (A.kind == 3) = true := by simpa using h3
              have hm1 : 1 < A.m := good3 HALL.out h3
              have hm0 : 0 < A.m := by omega
              obtain rfl := hma' hm0
              have hm1z : (1 : Int) < (A.m : Int) := by omega
              have hm0z : (0 : Int) < (A.m : Int) := by omega
              have HR : Hid (catR A B = catR (A.kidAt 0) (catR (A.kidAt 1) B)) := catR_cat (by rw [HN.out.1, HN.out.2]; rfl) h3 HB2'.out hm1
              obtain ⟨⟨p0, p1, p2⟩, hin0⟩ := HKK.out 0 hm0
              obtain ⟨⟨q0, q1, q2⟩, hin1⟩ := HKK.out 1 hm1
              obtain ⟨r1, r2, r3, r4, r5, r6, t1, t2⟩ := hin0.slices
              obtain ⟨s1, s2, s3, s4, s5, s6, z1, z2⟩ := hin1.slices
              rw [t1] at p1
              rw [t2] at p2
              rw [z1] at q1
              rw [z2] at q2
              simp only [Nat.zero_mul, Nat.add_zero, Nat.one_mul] at p0 p1 p2 q0 q1 q2
              have HROW : Hid (∀ V, Below w.heap.size w V → (V.cell? ⟨ab, ao, none⟩ = some (.int .i64 (A.kidAt 0).kind) ∧ V.cell? ⟨ab, ao + 1, none⟩ = some (.slice r1 r2 r3) ∧ V.cell? ⟨ab, ao + 2, none⟩ = some (.slice r4 r5 r6)) ∧ (V.cell? ⟨ab, ao + 3, none⟩ = some (.int .i64 (A.kidAt 1).kind) ∧ V.cell? ⟨ab, ao + 3 + 1, none⟩ = some (.slice s1 s2 s3) ∧ V.cell? ⟨ab, ao + 3 + 2, none⟩ = some (.slice s4 s5 s6))) := fun V hb => by
                have k : ∀ bb o v, w.cell? ⟨bb, o, none⟩ = some v → V.cell? ⟨bb, o, none⟩ = some v := fun bb o v h => (hb.cell (p := ⟨bb, o, none⟩) (World.block_lt_of_cell? _ _ h)).trans h
                exact ⟨⟨k _ _ _ p0, k _ _ _ p1, k _ _ _ p2⟩, ⟨k _ _ _ q0, k _ _ _ q1, k _ _ _ q2⟩⟩
              have HC1 : Hid (∀ V, Below w.heap.size w V → Calls Tryd.prog 15 #[.agg #[.int .i64 (A.kidAt 1).kind, .slice s1 s2 s3, .slice s4 s5 s6], .agg #[.int .i64 B.kind, .slice b B.n d, .slice b' B.m d']] V (ShResB P (catR (A.kidAt 1) B) V)) := fun V hb => by
                have h := ih 1 hm1 B (M.kid 1) N V P (hin1.below hb) (HIB.out.below hb) (fun k hk => by have := HP.out k hk; have := hb.size; omega) (kid_all HALL.out hm1)
                rwa [HVB.out, vx, z1, z2] at h
              have HC2 : Hid (∀ M1 V0 V, Below w.heap.size w V → In (fun k => P k ∨ V0 ≤ k) V (catR (A.kidAt 1) B) M1 → Calls Tryd.prog 15 #[.agg #[.int .i64 (A.kidAt 0).kind, .slice r1 r2 r3, .slice r4 r5 r6], vx (catR (A.kidAt 1) B) M1] V (ShResB (fun k => (P k ∨ V0 ≤ k) ∧ k < V.heap.size) (catR A B) V)) := fun M1 V0 V hb h1 => by
                have h := ih 0 hm0 (catR (A.kidAt 1) B) (M.kid 0) M1 V (fun k => (P k ∨ V0 ≤ k) ∧ k < V.heap.size) (((hin0.below hb).mono (fun k hk => Or.inl hk)).and (In.lt (hin0.below hb))) (h1.and (In.lt h1)) (fun k hk => hk.2) (kid_all HALL.out hm0)
                rw [HR.out]
                rwa [vx, t1, t2] at h
              have hablt : ab < w.heap.size := World.block_lt_of_cell? _ _ p0
              have HSET : Hid (∀ (V : World) (u0 u1 u2 : Value), ((V.cell? ⟨w.heap.size, 2, none⟩ = some (.slice (some ⟨ab, ao, none⟩) A.m c') ∧ V.cell? ⟨w.heap.size + 1, 0, none⟩ = some (.int .i64 B.kind) ∧ V.cell? ⟨w.heap.size + 1, 1, none⟩ = some (.slice b B.n d) ∧ V.cell? ⟨w.heap.size + 1, 2, none⟩ = some (.slice b' B.m d')) ∧ (V.cell? ⟨ab, ao, none⟩ = some (.int .i64 (A.kidAt 0).kind) ∧ V.cell? ⟨ab, ao + 1, none⟩ = some (.slice r1 r2 r3) ∧ V.cell? ⟨ab, ao + 2, none⟩ = some (.slice r4 r5 r6)) ∧ (V.cell? ⟨ab, ao + 3, none⟩ = some (.int .i64 (A.kidAt 1).kind) ∧ V.cell? ⟨ab, ao + 3 + 1, none⟩ = some (.slice s1 s2 s3) ∧ V.cell? ⟨ab, ao + 3 + 2, none⟩ = some (.slice s4 s5 s6))) → (((((V.setCell ⟨w.heap.size + 1 + 1, 0, none⟩ u0).setCell ⟨w.heap.size + 1 + 1, 1, none⟩ u1).setCell ⟨w.heap.size + 1 + 1, 2, none⟩ u2).cell? ⟨w.heap.size, 2, none⟩ = some (.slice (some ⟨ab, ao, none⟩) A.m c') ∧ (((V.setCell ⟨w.heap.size + 1 + 1, 0, none⟩ u0).setCell ⟨w.heap.size + 1 + 1, 1, none⟩ u1).setCell ⟨w.heap.size + 1 + 1, 2, none⟩ u2).cell? ⟨w.heap.size + 1, 0, none⟩ = some (.int .i64 B.kind) ∧ (((V.setCell ⟨w.heap.size + 1 + 1, 0, none⟩ u0).setCell ⟨w.heap.size + 1 + 1, 1, none⟩ u1).setCell ⟨w.heap.size + 1 + 1, 2, none⟩ u2).cell? ⟨w.heap.size + 1, 1, none⟩ = some (.slice b B.n d) ∧ (((V.setCell ⟨w.heap.size + 1 + 1, 0, none⟩ u0).setCell ⟨w.heap.size + 1 + 1, 1, none⟩ u1).setCell ⟨w.heap.size + 1 + 1, 2, none⟩ u2).cell? ⟨w.heap.size + 1, 2, none⟩ = some (.slice b' B.m d')) ∧ ((((V.setCell ⟨w.heap.size + 1 + 1, 0, none⟩ u0).setCell ⟨w.heap.size + 1 + 1, 1, none⟩ u1).setCell ⟨w.heap.size + 1 + 1, 2, none⟩ u2).cell? ⟨ab, ao, none⟩ = some (.int .i64 (A.kidAt 0).kind) ∧ (((V.setCell ⟨w.heap.size + 1 + 1, 0, none⟩ u0).setCell ⟨w.heap.size + 1 + 1, 1, none⟩ u1).setCell ⟨w.heap.size + 1 + 1, 2, none⟩ u2).cell? ⟨ab, ao + 1, none⟩ = some (.slice r1 r2 r3) ∧ (((V.setCell ⟨w.heap.size + 1 + 1, 0, none⟩ u0).setCell ⟨w.heap.size + 1 + 1, 1, none⟩ u1).setCell ⟨w.heap.size + 1 + 1, 2, none⟩ u2).cell? ⟨ab, ao + 2, none⟩ = some (.slice r4 r5 r6)) ∧ ((((V.setCell ⟨w.heap.size + 1 + 1, 0, none⟩ u0).setCell ⟨w.heap.size + 1 + 1, 1, none⟩ u1).setCell ⟨w.heap.size + 1 + 1, 2, none⟩ u2).cell? ⟨ab, ao + 3, none⟩ = some (.int .i64 (A.kidAt 1).kind) ∧ (((V.setCell ⟨w.heap.size + 1 + 1, 0, none⟩ u0).setCell ⟨w.heap.size + 1 + 1, 1, none⟩ u1).setCell ⟨w.heap.size + 1 + 1, 2, none⟩ u2).cell? ⟨ab, ao + 3 + 1, none⟩ = some (.slice s1 s2 s3) ∧ (((V.setCell ⟨w.heap.size + 1 + 1, 0, none⟩ u0).setCell ⟨w.heap.size + 1 + 1, 1, none⟩ u1).setCell ⟨w.heap.size + 1 + 1, 2, none⟩ u2).cell? ⟨ab, ao + 3 + 2, none⟩ = some (.slice s4 s5 s6)))) := fun V u0 u1 u2 h => by
                have k : ∀ bb o v, bb ≠ w.heap.size + 1 + 1 → V.cell? ⟨bb, o, none⟩ = some v → (((V.setCell ⟨w.heap.size + 1 + 1, 0, none⟩ u0).setCell ⟨w.heap.size + 1 + 1, 1, none⟩ u1).setCell ⟨w.heap.size + 1 + 1, 2, none⟩ u2).cell? ⟨bb, o, none⟩ = some v := fun bb o v hn hh => (World.cell?_of_block (w := V) (a := ⟨bb, o, none⟩) (keep3 V (w.heap.size + 1 + 1) 0 1 2 u0 u1 u2 hn)).trans hh
                have h1 : w.heap.size ≠ w.heap.size + 1 + 1 := by omega
                have h1' : w.heap.size + 1 ≠ w.heap.size + 1 + 1 := by omega
                have h2 : ab ≠ w.heap.size + 1 + 1 := by omega
                exact ⟨⟨k _ _ _ h1 h.1.1, k _ _ _ h1' h.1.2.1, k _ _ _ h1' h.1.2.2.1, k _ _ _ h1' h.1.2.2.2⟩, ⟨k _ _ _ h2 h.2.1.1, k _ _ _ h2 h.2.1.2.1, k _ _ _ h2 h.2.1.2.2⟩, ⟨k _ _ _ h2 h.2.2.1, k _ _ _ h2 h.2.2.2.1, k _ _ _ h2 h.2.2.2.2⟩⟩
              clear h3 hin0 hin1 t1 t2 z1 z2 p0 p1 p2 q0 q1 q2 ih
              go_enter Tryd.func15, Tryd.ntmps15
              go_wp2_with fail
              rw [← hW]
              clear hW
              refine (HNA.out W (Below.refl _ _)).mono ?_
              rintro e w1 ⟨rfl, hb1⟩
              obtain ⟨⟨x0, x1, x2⟩, ⟨y0, y1, y2⟩, HR1, hlt1⟩ := HX.out w1 hb1
              have HB1 : Hid (Below W.heap.size W w1) := hb1
              clear hb1
              go_wp2_with fail
              refine (HNB.out w1 HB1.out).mono ?_
              rintro e w2 ⟨rfl, hb2⟩
              have HB2 : Hid (Below W.heap.size W w2) := HB1.out.trans (hb2.mono HB1.out.size)
              obtain ⟨⟨u0, u1, u2⟩, ⟨v0, v1, v2⟩, HR2, hlt2⟩ := HX.out w2 HB2.out
              obtain ⟨⟨_, d0⟩, ⟨_, d1⟩, ⟨_, d2⟩, df⟩ := HR2.out.cells
              have HB0 : Hid (Below w.heap.size w w2) := HBW.out.trans (HB2.out.mono HBW.out.size)
              clear hb2 x0 x1 x2 y0 y1 y2
              obtain ⟨⟨i0, i1, i2⟩, ⟨j0, j1, j2⟩⟩ := HROW.out w2 HB0.out
              have HBD : Hid (Below w.heap.size w w2.drew) := HB0.out.drew
              have hbl2 : ab < w2.heap.size := World.block_lt_of_cell? _ _ i0
              go_wp2_with fail
              go_region_held (fun V => (V.cell? ⟨w.heap.size, 2, none⟩ = some (.slice (some ⟨ab, ao, none⟩) A.m c') ∧ V.cell? ⟨w.heap.size + 1, 0, none⟩ = some (.int .i64 B.kind) ∧ V.cell? ⟨w.heap.size + 1, 1, none⟩ = some (.slice b B.n d) ∧ V.cell? ⟨w.heap.size + 1, 2, none⟩ = some (.slice b' B.m d')) ∧ (V.cell? ⟨ab, ao, none⟩ = some (.int .i64 (A.kidAt 0).kind) ∧ V.cell? ⟨ab, ao + 1, none⟩ = some (.slice r1 r2 r3) ∧ V.cell? ⟨ab, ao + 2, none⟩ = some (.slice r4 r5 r6)) ∧ (V.cell? ⟨ab, ao + 3, none⟩ = some (.int .i64 (A.kidAt 1).kind) ∧ V.cell? ⟨ab, ao + 3 + 1, none⟩ = some (.slice s1 s2 s3) ∧ V.cell? ⟨ab, ao + 3 + 2, none⟩ = some (.slice s4 s5 s6))) (first | (refine HSET.out w6 _ _ _ ?_; exact ⟨⟨i2', i3', i4', i5'⟩, ⟨j0', j1', j2'⟩, ⟨l0', l1', l2'⟩⟩) | go_keep)
                (first
                  | (go_at_call 15; refine (HC2.out M5 w2.drew.heap.size w5 HB5.out HI5.out).mono ?_; rintro e w6 ⟨M6, rfl, hin6, hb6⟩
                     obtain ⟨x1', x2', x3', x4', hv6⟩ := hin6.value'
                     have HV6 : Hid (vx (catR A B) M6 = .agg #[.int .i64 (catR A B).kind, .slice x1' (catR A B).n x2', .slice x3' (catR A B).m x4']) := hv6
                     rw [hv6]
                     have HR6 : Hid (Rb w6 (w.heap.size + 1 + 1)) := HR5.out.of_block (hb6.block _ HR5.out.lt)
                     have HB26 : Hid (Below W.heap.size W w6) := HB25.out.trans (hb6.mono HB25.out.size)
                     have HB6 : Hid (Below w.heap.size w w6) := HB5.out.trans (hb6.mono HB5.out.size)
                     obtain ⟨⟨_, _, i2'⟩, ⟨i3', i4', i5'⟩, _, _⟩ := HX.out w6 HB26.out
                     obtain ⟨⟨j0', j1', j2'⟩, ⟨l0', l1', l2'⟩⟩ := HROW.out w6 HB6.out
                     obtain ⟨⟨m0', g0⟩, ⟨m1', g1⟩, ⟨m2', g2⟩, gf⟩ := HR6.out.cells)
                  | (go_at_call 15; refine (HC1.out _ HBD.out).mono ?_; rintro e w5 ⟨M5, rfl, hin5, hb5⟩
                     have HB5 : Hid (Below w.heap.size w w5) := HBD.out.trans (hb5.mono HBD.out.size)
                     have HI5 : Hid (In (fun k => P k ∨ w2.drew.heap.size ≤ k) w5 (catR (A.kidAt 1) B) M5) := hin5
                     have HB25 : Hid (Below W.heap.size W w5) := HB2.out.drew.trans (hb5.mono HB2.out.drew.size)
                     obtain ⟨⟨_, _, i2'⟩, ⟨i3', i4', i5'⟩, HR5, hlt5⟩ := HX.out w5 HB25.out
                     obtain ⟨⟨j0', j1', j2'⟩, ⟨l0', l1', l2'⟩⟩ := HROW.out w5 HB5.out))
              all_goals go_wp2_with fail
              all_goals
                refine bodyPost_ret (v := .agg #[.int .i64 (catR A B).kind, .slice x1' (catR A B).n x2', .slice x3' (catR A B).m x4']) (by simp [results, Tryd.results15, go_sem, g0, g1, g2]) rfl ?_
                refine ⟨M6, by rw [HV6.out], (in3 (fun x hx => ?_) _ _ _ hin6).mono (fun x hx => ?_), HLAST.out _ _ _ _ (HB5.out.trans (hb6.mono HB5.out.size))⟩
                · have h2 : w.heap.size + 2 < w2.drew.heap.size := hlt2
                  have h5 : w2.drew.heap.size ≤ w5.heap.size := hb5.size
                  rcases hx with ⟨hx | hx, _⟩ | hx
                  · have := HP.out x hx; omega
                  · omega
                  · omega
                · have h2 : w.heap.size + 2 < w2.drew.heap.size := hlt2
                  have h5 : w2.drew.heap.size ≤ w5.heap.size := hb5.size
                  rcases hx with ⟨hx | hx, _⟩ | hx
                  · exact .inl hx
                  · exact .inr (by omega)
                  · exact .inr (by omega)
            · have hk3 : (A.kind == 3) = false := by simpa using h3
              have H3 : Hid (A.kind ≠ 3) := h3
              clear h3
              go_enter Tryd.func15, Tryd.ntmps15
              go_wp2_with fail
              rw [← hW]
              clear hW
              refine (HNA.out W (Below.refl _ _)).mono ?_
              rintro e w1 ⟨rfl, hb1⟩
              obtain ⟨⟨x0, x1, x2⟩, ⟨y0, y1, y2⟩, HR1, hlt1⟩ := HX.out w1 hb1
              have HB1 : Hid (Below W.heap.size W w1) := hb1
              clear hb1
              go_wp2_with fail
              refine (HNB.out w1 HB1.out).mono ?_
              rintro e w2 ⟨rfl, hb2⟩
              have HB2 : Hid (Below W.heap.size W w2) := HB1.out.trans (hb2.mono HB1.out.size)
              obtain ⟨⟨u0, u1, u2⟩, ⟨v0, v1, v2⟩, HR2, hlt2⟩ := HX.out w2 HB2.out
              obtain ⟨⟨_, d0⟩, ⟨_, d1⟩, ⟨_, d2⟩, df⟩ := HR2.out.cells
              have HB0 : Hid (Below w.heap.size w w2) := HBW.out.trans (HB2.out.mono HBW.out.size)
              clear hb2 x0 x1 x2 y0 y1 y2
              have hne : w2.heap.size ≠ w.heap.size + 1 + 1 := by omega
              go_wp2_with fail
              refine bodyPost_ret (v := .agg #[.int .i64 3, .slice none 0 0, .slice (some ⟨w2.heap.size, 0, none⟩) 2 2]) (by simp [results, Tryd.results15, go_sem, d0, d1, d2, hlt2]) rfl ?_
              exact HTW.out rfl H2.out HB2'.out H3.out _ w2.heap.size (by omega) ((HLAST.out _ _ _ _ HB0.out).alloc (by simp; omega) _) (by simp [go_sem, hne]) (by simp [go_sem, hne]) (by simp [go_sem, hne]) (by simp [go_sem, hne]) (by simp [go_sem, hne]) (by simp [go_sem, hne])
end Go.Proofs.YtiphmmgfmiiilaaDoor

