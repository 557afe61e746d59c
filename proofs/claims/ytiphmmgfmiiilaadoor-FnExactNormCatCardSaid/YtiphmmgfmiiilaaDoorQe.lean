/- The rule of NormCat that goes on, and makeCat. -/
import Derived.Test.YtiphmmgfmiiilaaDoorQd
import Derived.OrdersHeld
namespace Go.Proofs.YtiphmmgfmiiilaaDoor
open Go.RowKit Go.Shelf
set_option linter.unusedVariables false
set_option linter.unusedSimpArgs false

/-- what the rule of a cat of a cat tells -/
def catK (A C : Sh) : Sh := if A.kind = 3 then catR (A.kidAt 0) (catR (A.kidAt 1) C) else zeroS 0

set_option maxRecDepth 100000 in
set_option maxHeartbeats 8000000 in
theorem catOfCat_any {B : Nat → Prop} (A C : Sh) (M N : Mx) (w : World) (hA : In B w A M) (hC : In B w C N) (hBl : ∀ k, B k → k < w.heap.size) (hall : allB A = true)
    (ih : ∀ i, i < A.m → ∀ (C' : Sh) (M' N' : Mx) (V : World) (P : Nat → Prop), In P V (A.kidAt i) M' → In P V C' N' → (∀ k, P k → k < V.heap.size) → Calls Tryd.prog 20 #[vx (A.kidAt i) M', vx C' N'] V (ShResB P (catR (A.kidAt i) C') V)) :
    Calls Tryd.prog 37 #[vx2 A M C N] w (RuleRes B (catK A C) (A.kind == 3) w) := by
  obtain ⟨a, _, _, c, a', ab, ao, c', e1, _, _, _, e2, hma, hml, hkk⟩ := hA.parts
  obtain ⟨b, _, _, d, b', _, _, d', f1, _, _, _, f2, _⟩ := hC.parts
  have hvA : vx A M = .agg #[.int .i64 A.kind, .slice a A.n c, .slice a' A.m c'] := by rw [vx, e1, e2]
  have hvC : vx C N = .agg #[.int .i64 C.kind, .slice b C.n d, .slice b' C.m d'] := by rw [vx, f1, f2]
  have HVA : Hid (vx A M = .agg #[.int .i64 A.kind, .slice a A.n c, .slice a' A.m c']) := hvA
  have HVC : Hid (vx C N = .agg #[.int .i64 C.kind, .slice b C.n d, .slice b' C.m d']) := hvC
  have HSL : Hid ((M.sv = .slice a A.n c ∧ M.kv = .slice a' A.m c') ∧ N.sv = .slice b C.n d ∧ N.kv = .slice b' C.m d') := ⟨⟨e1, e2⟩, f1, f2⟩
  have HIA : Hid (In B w A M) := hA
  have HIC : Hid (In B w C N) := hC
  by_cases h3 : A.kind = 3
  · have hk3 : (A.kind != 3) = false := by simpa using h3
    have HK3 : Hid ((A.kind == 3) = true) := by simpa [Hid] using h3
    have hm1 : 1 < A.m := good3 hall h3
    have hm0 : 0 < A.m := by omega
    obtain ⟨rfl, hBab⟩ := hma hm0
    have hm1z : (1 : Int) < (A.m : Int) := by omega
    have hm0z : (0 : Int) < (A.m : Int) := by omega
    have HR : Hid (catK A C = catR (A.kidAt 0) (catR (A.kidAt 1) C)) := by rw [Hid, catK, if_pos h3]
    have hab : ab < w.heap.size := hBl _ hBab
    obtain ⟨⟨p0, p1, p2⟩, hin0⟩ := hkk 0 hm0
    obtain ⟨⟨q0, q1, q2⟩, hin1⟩ := hkk 1 hm1
    obtain ⟨r1, r2, r3, r4, r5, r6, t1, t2⟩ := hin0.slices
    obtain ⟨s1, s2, s3, s4, s5, s6, z1, z2⟩ := hin1.slices
    rw [t1] at p1
    rw [t2] at p2
    rw [z1] at q1
    rw [z2] at q2
    simp only [Nat.zero_mul, Nat.add_zero, Nat.one_mul] at p0 p1 p2 q0 q1 q2
    obtain ⟨W, hW⟩ : ∃ W, W = ((w.alloc (.cells #[.int .i64 A.kind, .slice a A.n c, .slice (some ⟨ab, ao, none⟩) A.m c', .int .i64 C.kind, .slice b C.n d, .slice b' C.m d'] 57)).alloc (.cells #[.int .i64 0, .slice none 0 0, .slice none 0 0] 30)) := ⟨_, rfl⟩
    have hbW : Below w.heap.size w W := by rw [hW]; exact below_two _ _ _
    have hsW : W.heap.size = w.heap.size + 2 := by rw [hW]; simp
    have hX : W.cell? ⟨w.heap.size, 2, none⟩ = some (.slice (some ⟨ab, ao, none⟩) A.m c') ∧ W.cell? ⟨w.heap.size, 3, none⟩ = some (.int .i64 C.kind) ∧ W.cell? ⟨w.heap.size, 4, none⟩ = some (.slice b C.n d) ∧ W.cell? ⟨w.heap.size, 5, none⟩ = some (.slice b' C.m d') ∧ Rb W (w.heap.size + 1) := by
      rw [hW]
      refine ⟨by simp [go_sem], by simp [go_sem], by simp [go_sem], by simp [go_sem], ?_⟩
      have := Rb.new (w.alloc (.cells #[.int .i64 A.kind, .slice a A.n c, .slice (some ⟨ab, ao, none⟩) A.m c', .int .i64 C.kind, .slice b C.n d, .slice b' C.m d'] 57)) (.int .i64 0) (.slice none 0 0) (.slice none 0 0)
      rwa [size_new] at this
    have HX : Hid (∀ V, Below W.heap.size W V → ((V.cell? ⟨w.heap.size, 2, none⟩ = some (.slice (some ⟨ab, ao, none⟩) A.m c') ∧ V.cell? ⟨w.heap.size, 3, none⟩ = some (.int .i64 C.kind) ∧ V.cell? ⟨w.heap.size, 4, none⟩ = some (.slice b C.n d) ∧ V.cell? ⟨w.heap.size, 5, none⟩ = some (.slice b' C.m d')) ∧ (V.cell? ⟨ab, ao, none⟩ = some (.int .i64 (A.kidAt 0).kind) ∧ V.cell? ⟨ab, ao + 1, none⟩ = some (.slice r1 r2 r3) ∧ V.cell? ⟨ab, ao + 2, none⟩ = some (.slice r4 r5 r6)) ∧ (V.cell? ⟨ab, ao + 3, none⟩ = some (.int .i64 (A.kidAt 1).kind) ∧ V.cell? ⟨ab, ao + 3 + 1, none⟩ = some (.slice s1 s2 s3) ∧ V.cell? ⟨ab, ao + 3 + 2, none⟩ = some (.slice s4 s5 s6))) ∧ Hid (Rb V (w.heap.size + 1)) ∧ w.heap.size + 1 < V.heap.size) := fun V hb => by
      obtain ⟨x2, x3, x4, x5, hr⟩ := hX
      have k : ∀ bb o v, W.cell? ⟨bb, o, none⟩ = some v → V.cell? ⟨bb, o, none⟩ = some v := fun bb o v h => (hb.cell (p := ⟨bb, o, none⟩) (World.block_lt_of_cell? _ _ h)).trans h
      have k' : ∀ bb o v, w.cell? ⟨bb, o, none⟩ = some v → V.cell? ⟨bb, o, none⟩ = some v := fun bb o v h => k bb o v ((hbW.cell (p := ⟨bb, o, none⟩) (World.block_lt_of_cell? _ _ h)).trans h)
      exact ⟨⟨⟨k _ _ _ x2, k _ _ _ x3, k _ _ _ x4, k _ _ _ x5⟩, ⟨k' _ _ _ p0, k' _ _ _ p1, k' _ _ _ p2⟩, ⟨k' _ _ _ q0, k' _ _ _ q1, k' _ _ _ q2⟩⟩, hr.of_block (hb.block _ hr.lt), by have := hb.size; omega⟩
    have HBW : Hid (Below w.heap.size w W) := hbW
    have HC1 : Hid (∀ V, Below w.heap.size w V → Calls Tryd.prog 20 #[.agg #[.int .i64 (A.kidAt 1).kind, .slice s1 s2 s3, .slice s4 s5 s6], .agg #[.int .i64 C.kind, .slice b C.n d, .slice b' C.m d']] V (ShResB B (catR (A.kidAt 1) C) V)) := fun V hb => by
      have h := ih 1 hm1 C (M.kid 1) N V B (hin1.below hb) (hC.below hb) (fun k hk => by have := hBl k hk; have := hb.size; omega)
      rwa [hvC, vx, z1, z2] at h
    have HC2 : Hid (∀ M1 V0 V, Below w.heap.size w V → In (fun k => B k ∨ V0 ≤ k) V (catR (A.kidAt 1) C) M1 → Calls Tryd.prog 20 #[.agg #[.int .i64 (A.kidAt 0).kind, .slice r1 r2 r3, .slice r4 r5 r6], vx (catR (A.kidAt 1) C) M1] V (ShResB (fun k => (B k ∨ V0 ≤ k) ∧ k < V.heap.size) (catK A C) V)) := fun M1 V0 V hb h1 => by
      have h := ih 0 hm0 (catR (A.kidAt 1) C) (M.kid 0) M1 V (fun k => (B k ∨ V0 ≤ k) ∧ k < V.heap.size) (((hin0.below hb).mono (fun k hk => Or.inl hk)).and (In.lt (hin0.below hb))) (h1.and (In.lt h1)) (fun k hk => hk.2)
      rw [HR.out]
      rwa [vx, t1, t2] at h
    have HSET : Hid (∀ (V : World) (u0 u1 u2 : Value), ((V.cell? ⟨w.heap.size, 2, none⟩ = some (.slice (some ⟨ab, ao, none⟩) A.m c') ∧ V.cell? ⟨w.heap.size, 3, none⟩ = some (.int .i64 C.kind) ∧ V.cell? ⟨w.heap.size, 4, none⟩ = some (.slice b C.n d) ∧ V.cell? ⟨w.heap.size, 5, none⟩ = some (.slice b' C.m d')) ∧ (V.cell? ⟨ab, ao, none⟩ = some (.int .i64 (A.kidAt 0).kind) ∧ V.cell? ⟨ab, ao + 1, none⟩ = some (.slice r1 r2 r3) ∧ V.cell? ⟨ab, ao + 2, none⟩ = some (.slice r4 r5 r6)) ∧ (V.cell? ⟨ab, ao + 3, none⟩ = some (.int .i64 (A.kidAt 1).kind) ∧ V.cell? ⟨ab, ao + 3 + 1, none⟩ = some (.slice s1 s2 s3) ∧ V.cell? ⟨ab, ao + 3 + 2, none⟩ = some (.slice s4 s5 s6))) → (((((V.setCell ⟨w.heap.size + 1, 0, none⟩ u0).setCell ⟨w.heap.size + 1, 1, none⟩ u1).setCell ⟨w.heap.size + 1, 2, none⟩ u2).cell? ⟨w.heap.size, 2, none⟩ = some (.slice (some ⟨ab, ao, none⟩) A.m c') ∧ (((V.setCell ⟨w.heap.size + 1, 0, none⟩ u0).setCell ⟨w.heap.size + 1, 1, none⟩ u1).setCell ⟨w.heap.size + 1, 2, none⟩ u2).cell? ⟨w.heap.size, 3, none⟩ = some (.int .i64 C.kind) ∧ (((V.setCell ⟨w.heap.size + 1, 0, none⟩ u0).setCell ⟨w.heap.size + 1, 1, none⟩ u1).setCell ⟨w.heap.size + 1, 2, none⟩ u2).cell? ⟨w.heap.size, 4, none⟩ = some (.slice b C.n d) ∧ (((V.setCell ⟨w.heap.size + 1, 0, none⟩ u0).setCell ⟨w.heap.size + 1, 1, none⟩ u1).setCell ⟨w.heap.size + 1, 2, none⟩ u2).cell? ⟨w.heap.size, 5, none⟩ = some (.slice b' C.m d')) ∧ ((((V.setCell ⟨w.heap.size + 1, 0, none⟩ u0).setCell ⟨w.heap.size + 1, 1, none⟩ u1).setCell ⟨w.heap.size + 1, 2, none⟩ u2).cell? ⟨ab, ao, none⟩ = some (.int .i64 (A.kidAt 0).kind) ∧ (((V.setCell ⟨w.heap.size + 1, 0, none⟩ u0).setCell ⟨w.heap.size + 1, 1, none⟩ u1).setCell ⟨w.heap.size + 1, 2, none⟩ u2).cell? ⟨ab, ao + 1, none⟩ = some (.slice r1 r2 r3) ∧ (((V.setCell ⟨w.heap.size + 1, 0, none⟩ u0).setCell ⟨w.heap.size + 1, 1, none⟩ u1).setCell ⟨w.heap.size + 1, 2, none⟩ u2).cell? ⟨ab, ao + 2, none⟩ = some (.slice r4 r5 r6)) ∧ ((((V.setCell ⟨w.heap.size + 1, 0, none⟩ u0).setCell ⟨w.heap.size + 1, 1, none⟩ u1).setCell ⟨w.heap.size + 1, 2, none⟩ u2).cell? ⟨ab, ao + 3, none⟩ = some (.int .i64 (A.kidAt 1).kind) ∧ (((V.setCell ⟨w.heap.size + 1, 0, none⟩ u0).setCell ⟨w.heap.size + 1, 1, none⟩ u1).setCell ⟨w.heap.size + 1, 2, none⟩ u2).cell? ⟨ab, ao + 3 + 1, none⟩ = some (.slice s1 s2 s3) ∧ (((V.setCell ⟨w.heap.size + 1, 0, none⟩ u0).setCell ⟨w.heap.size + 1, 1, none⟩ u1).setCell ⟨w.heap.size + 1, 2, none⟩ u2).cell? ⟨ab, ao + 3 + 2, none⟩ = some (.slice s4 s5 s6)))) := fun V u0 u1 u2 h => by
      have k : ∀ bb o v, bb ≠ w.heap.size + 1 → V.cell? ⟨bb, o, none⟩ = some v → (((V.setCell ⟨w.heap.size + 1, 0, none⟩ u0).setCell ⟨w.heap.size + 1, 1, none⟩ u1).setCell ⟨w.heap.size + 1, 2, none⟩ u2).cell? ⟨bb, o, none⟩ = some v := fun bb o v hn hh => (World.cell?_of_block (w := V) (a := ⟨bb, o, none⟩) (keep3 V (w.heap.size + 1) 0 1 2 u0 u1 u2 hn)).trans hh
      have h1 : w.heap.size ≠ w.heap.size + 1 := by omega
      have h2 : ab ≠ w.heap.size + 1 := by omega
      exact ⟨⟨k _ _ _ h1 h.1.1, k _ _ _ h1 h.1.2.1, k _ _ _ h1 h.1.2.2.1, k _ _ _ h1 h.1.2.2.2⟩, ⟨k _ _ _ h2 h.2.1.1, k _ _ _ h2 h.2.1.2.1, k _ _ _ h2 h.2.1.2.2⟩, ⟨k _ _ _ h2 h.2.2.1, k _ _ _ h2 h.2.2.2.1, k _ _ _ h2 h.2.2.2.2⟩⟩
    have HBL : Hid (∀ k, B k → k < w.heap.size) := hBl
    obtain ⟨X, hXX⟩ : ∃ X, catK A C = X := ⟨_, rfl⟩
    rw [hXX] at HC2 ⊢
    rw [vx2_eq hvA hvC, HK3.out]
    have h12 : Below W.heap.size W W := Below.refl _ _
    obtain ⟨⟨⟨i2, i3, i4, i5⟩, ⟨j0, j1, j2⟩, ⟨l0, l1, l2⟩⟩, HRW, hltW⟩ := HX.out W h12
    have hne : ab ≠ w.heap.size + 1 := by omega
    clear h3 hin0 hin1 t1 t2 z1 z2 p0 p1 p2 q0 q1 q2 ih hvA hvC hA hC e1 e2 f1 f2 hkk hma HVA HVC HIA HIC HSL hX hXX h12 hbW hBl hall
    go_enter Tryd.func37, Tryd.ntmps37
    go_wp2_with fail
    rw [← hW]
    clear hW
    have HBD : Hid (Below W.heap.size W W.drew) := (Below.refl _ _).drew
    go_region_held (fun V => (V.cell? ⟨w.heap.size, 2, none⟩ = some (.slice (some ⟨ab, ao, none⟩) A.m c') ∧ V.cell? ⟨w.heap.size, 3, none⟩ = some (.int .i64 C.kind) ∧ V.cell? ⟨w.heap.size, 4, none⟩ = some (.slice b C.n d) ∧ V.cell? ⟨w.heap.size, 5, none⟩ = some (.slice b' C.m d')) ∧ (V.cell? ⟨ab, ao, none⟩ = some (.int .i64 (A.kidAt 0).kind) ∧ V.cell? ⟨ab, ao + 1, none⟩ = some (.slice r1 r2 r3) ∧ V.cell? ⟨ab, ao + 2, none⟩ = some (.slice r4 r5 r6)) ∧ (V.cell? ⟨ab, ao + 3, none⟩ = some (.int .i64 (A.kidAt 1).kind) ∧ V.cell? ⟨ab, ao + 3 + 1, none⟩ = some (.slice s1 s2 s3) ∧ V.cell? ⟨ab, ao + 3 + 2, none⟩ = some (.slice s4 s5 s6))) (first | (refine HSET.out w6 _ _ _ ?_; exact ⟨⟨i2', i3', i4', i5'⟩, ⟨j0', j1', j2'⟩, ⟨l0', l1', l2'⟩⟩) | go_keep)
      (first
        | (go_at_call 20; refine (HC2.out M5 W.drew.heap.size w5 (HBW.out.trans (HB5.out.mono HBW.out.size)) HI5.out).mono ?_; rintro e w6 ⟨M6, rfl, hin6, hb6⟩
           obtain ⟨x1', x2', x3', x4', hv6⟩ := hin6.value'
           have HV6 : Hid (vx X M6 = .agg #[.int .i64 X.kind, .slice x1' X.n x2', .slice x3' X.m x4']) := hv6
           rw [hv6]
           have HB6 : Hid (Below W.heap.size W w6) := HB5.out.trans (hb6.mono HB5.out.size)
           obtain ⟨⟨⟨i2', i3', i4', i5'⟩, ⟨j0', j1', j2'⟩, ⟨l0', l1', l2'⟩⟩, HR6, hlt6⟩ := HX.out w6 HB6.out
           obtain ⟨⟨m0', g0⟩, ⟨m1', g1⟩, ⟨m2', g2⟩, gf⟩ := HR6.out.cells)
        | (go_at_call 20; refine (HC1.out _ (HBW.out.trans (HBD.out.mono HBW.out.size))).mono ?_; rintro e w5 ⟨M5, rfl, hin5, hb5⟩
           have HB5 : Hid (Below W.heap.size W w5) := HBD.out.trans (hb5.mono HBD.out.size)
           have HI5 : Hid (In (fun k => B k ∨ W.drew.heap.size ≤ k) w5 (catR (A.kidAt 1) C) M5) := hin5
           obtain ⟨⟨⟨i2', i3', i4', i5'⟩, ⟨j0', j1', j2'⟩, ⟨l0', l1', l2'⟩⟩, HR5, hlt5⟩ := HX.out w5 HB5.out))
    all_goals go_wp2_with fail
    all_goals
      refine bodyPost_ret (v := .tuple #[.agg #[.int .i64 X.kind, .slice x1' X.n x2', .slice x3' X.m x4'], .bool true]) (by simp [results, Tryd.results37, go_sem, g0, g1, g2]) rfl ?_
      have h5 : W.drew.heap.size ≤ w5.heap.size := hb5.size
      have hWd : W.drew.heap.size = w.heap.size + 2 := hsW
      refine ⟨M6, by rw [HV6.out], (in3 (fun x hx => ?_) _ _ _ hin6).mono (fun x hx => ?_), (((HBW.out.trans (HB6.out.mono HBW.out.size)).setCell (by simp) _).setCell (by simp) _).setCell (by simp) _⟩
      · rcases hx with ⟨hx | hx, _⟩ | hx
        · have := HBL.out x hx; omega
        · omega
        · omega
      · rcases hx with ⟨hx | hx, _⟩ | hx
        · exact .inl hx
        · exact .inr (by omega)
        · exact .inr (by omega)
  · have hk3 : (A.kind != 3) = true := by simpa using h3
    have HK3 : Hid ((A.kind == 3) = false) := by simpa [Hid] using h3
    have HR : Hid (catK A C = zeroS 0) := by rw [Hid, catK, if_neg h3]
    rw [vx2_eq hvA hvC, HK3.out]
    clear h3 hvA hvC hA hC e1 e2 f1 f2 hkk hma HVA HVC HIA HIC HSL ih hall hBl
    go_enter Tryd.func37, Tryd.ntmps37
    go_wp2_with fail
    refine bodyPost_ret (v := .tuple #[.agg #[.int .i64 0, .slice none 0 0, .slice none 0 0], .bool false]) (by simp [results, Tryd.results37, go_sem]) rfl ?_
    rw [HR.out]
    exact ⟨Mx.no, rfl, zero_in _ _ _, below_two _ _ _⟩
end Go.Proofs.YtiphmmgfmiiilaaDoor

