/- the walk of the law of RexSame -/
import Derived.Test.YtbbenhhckdmbnaaRf
namespace Go.Proofs.Ytbbenhhckdmbnaa
open Go.RowKit
set_option linter.unusedVariables false
set_option linter.unusedSimpArgs false

/-- a Rex as a value, its two slices told -/
theorem In.value {B : Nat → Prop} {w : World} {S : Sh} {M : Mx} (h : In B w S M) : ∃ (a : Option Addr) (n c : Nat) (a' : Option Addr) (m c' : Nat), vx S M = .agg #[.int .i64 S.kind, .slice a n c, .slice a' m c'] := by
  obtain ⟨a, n, c, a', m, c', e1, e2⟩ := h.slices
  exact ⟨a, n, c, a', m, c', by rw [vx, e1, e2]⟩
theorem In.any {B : Nat → Prop} {w : World} {S : Sh} {M : Mx} (h : In B w S M) : In AnyB w S M := h.mono (fun _ _ => trivial)
theorem In.soft {b : Nat} {w w' : World} {S : Sh} {M : Mx} (h : In (fun k => b ≤ k ∧ Soft w k) w S M) (hb : Below w.heap.size w w') : In (Soft w') w' S M :=
  (h.below hb).mono (fun k hk => hk.2.below hb)

set_option maxRecDepth 100000 in
set_option maxHeartbeats 4000000 in
theorem law3 (S : Sh) (M : Mx) (T : Sh) (N : Mx) (w : World) (hS : In AnyB w S M) (hT : In AnyB w T N) :
    Calls Try.prog 3 #[vx S M, vx T N] w fun e w' => e = .returned (.bool true) ∧ Below w.heap.size w w' := by
  obtain ⟨a, n, c, a', m, c', hv⟩ := hS.value
  obtain ⟨b, k, d, b', j, d', hu⟩ := hT.value
  obtain ⟨W0, hW0⟩ : ∃ W0, W0 = (w.alloc (.cells #[.int .i64 S.kind, .slice a n c, .slice a' m c'] 25)).alloc (.cells #[.int .i64 T.kind, .slice b k d, .slice b' j d'] 25) := ⟨_, rfl⟩
  have hB0 : Below w.heap.size w W0 := by rw [hW0]; exact ((Below.refl _ _).alloc (Nat.le_refl _) _).alloc (by simp) _
  have hz0 : W0.heap.size = w.heap.size + 2 := by rw [hW0]; simp
  have x0 : W0.cell? ⟨w.heap.size, 0, none⟩ = some (.int .i64 S.kind) := by rw [hW0]; simp [go_sem]
  have x1 : W0.cell? ⟨w.heap.size, 1, none⟩ = some (.slice a n c) := by rw [hW0]; simp [go_sem]
  have x2 : W0.cell? ⟨w.heap.size, 2, none⟩ = some (.slice a' m c') := by rw [hW0]; simp [go_sem]
  have y0 : W0.cell? ⟨w.heap.size + 1, 0, none⟩ = some (.int .i64 T.kind) := by rw [hW0]; simp [go_sem]
  have y1 : W0.cell? ⟨w.heap.size + 1, 1, none⟩ = some (.slice b k d) := by rw [hW0]; simp [go_sem]
  have y2 : W0.cell? ⟨w.heap.size + 1, 2, none⟩ = some (.slice b' j d') := by rw [hW0]; simp [go_sem]
  have HX : Hid (∀ V, Below W0.heap.size W0 V → (V.cell? ⟨w.heap.size, 0, none⟩ = some (.int .i64 S.kind) ∧ V.cell? ⟨w.heap.size, 1, none⟩ = some (.slice a n c) ∧ V.cell? ⟨w.heap.size, 2, none⟩ = some (.slice a' m c')) ∧
      V.cell? ⟨w.heap.size + 1, 0, none⟩ = some (.int .i64 T.kind) ∧ V.cell? ⟨w.heap.size + 1, 1, none⟩ = some (.slice b k d) ∧ V.cell? ⟨w.heap.size + 1, 2, none⟩ = some (.slice b' j d')) := fun V hb =>
    ⟨⟨(hb.cell (p := ⟨_, _, none⟩) (World.block_lt_of_cell? _ _ x0)).trans x0, (hb.cell (p := ⟨_, _, none⟩) (World.block_lt_of_cell? _ _ x1)).trans x1, (hb.cell (p := ⟨_, _, none⟩) (World.block_lt_of_cell? _ _ x2)).trans x2⟩,
      (hb.cell (p := ⟨_, _, none⟩) (World.block_lt_of_cell? _ _ y0)).trans y0, (hb.cell (p := ⟨_, _, none⟩) (World.block_lt_of_cell? _ _ y1)).trans y1, (hb.cell (p := ⟨_, _, none⟩) (World.block_lt_of_cell? _ _ y2)).trans y2⟩
  have HB0 : Hid (Below w.heap.size w W0) := hB0
  have HZS : Hid (Calls Try.prog 4 #[vx S M, .int .i64 1048576] W0 fun e w' => e = .returned (.int .i64 (leftOf 1048576 (cnt S))) ∧ Below W0.heap.size W0 w') := szRex_any S M 1048576 W0 (hS.below hB0) (by omega) (by omega)
  by_cases hc : 1048576 < cnt S
  · rw [leftOf_neg (by omega)] at HZS
    rw [hv] at HZS
    rw [hv, hu]
    clear hv hu
    go_enter Try.func3, Try.ntmps3
    go_wp2_with fail
    rw [← hW0]
    clear hW0
    refine HZS.out.mono ?_
    rintro e w1 ⟨rfl, hb1⟩
    go_wp2_with fail
    go_ret
    exact ⟨rfl, HB0.out.trans (hb1.mono HB0.out.size)⟩
  rw [leftOf_pos (by omega)] at HZS
  have HZT : Hid (∀ w1, Below W0.heap.size W0 w1 → Calls Try.prog 4 #[vx T N, .int .i64 (1048576 - (cnt S : Int))] w1 fun e w' => e = .returned (.int .i64 (leftOf (1048576 - (cnt S : Int)) (cnt T))) ∧ Below w1.heap.size w1 w') := fun w1 hb => szRex_any T N _ w1 ((hT.below HB0.out).below hb) (by omega) (by omega)
  by_cases hd : 1048576 - (cnt S : Int) < (cnt T : Int)
  · rw [leftOf_neg hd] at HZT
    obtain ⟨z, hz⟩ : ∃ z : Nat, cnt S = z := ⟨_, rfl⟩
    rw [hz] at HZS HZT
    have hz1 : ¬ 1048576 - (z : Int) < 0 := by omega
    rw [hv] at HZS
    rw [hu] at HZT
    rw [hv, hu]
    clear hv hu hc hd hz
    go_enter Try.func3, Try.ntmps3
    go_wp2_with fail
    rw [← hW0]
    clear hW0
    refine HZS.out.mono ?_
    rintro e w1 ⟨rfl, hb1⟩
    obtain ⟨⟨p0, p1, p2⟩, q0, q1, q2⟩ := HX.out w1 hb1
    go_wp2_with fail
    refine (HZT.out _ hb1).mono ?_
    rintro e w2 ⟨rfl, hb2⟩
    go_wp2_with fail
    go_ret
    exact ⟨rfl, HB0.out.trans ((hb1.trans (hb2.mono hb1.size)).mono HB0.out.size)⟩
  rw [leftOf_pos hd] at HZT
  have hcS : cnt S ≤ 1048576 := by omega
  have hcT : cnt T ≤ 1048576 := by omega
  have HA : Hid (∀ w1, Below W0.heap.size W0 w1 → Calls Try.prog 6 #[vx S M] w1 (ToRes S w1)) := fun w1 hb => toRex_any S M w1 ((hS.below HB0.out).below hb) hcS
  have HBB : Hid (∀ w1, Below W0.heap.size W0 w1 → Calls Try.prog 6 #[vx T N] w1 (ToRes T w1)) := fun w1 hb => toRex_any T N w1 ((hT.below HB0.out).below hb) hcT
  have H5 : Hid (∀ M1 N1 w1, In AnyB w1 S M1 → In AnyB w1 T N1 → Calls Try.prog 5 #[vx S M1, vx T N1] w1 fun e w' => e = .returned (.bool (sameR S T)) ∧ Below w1.heap.size w1 w') := fun M1 N1 w1 h1 h2 => specSame_any S M1 T N1 w1 h1 h2 hcS hcT
  have H7 : Hid (∀ M1 N1 w1, In (Soft w1) w1 S M1 → In (Soft w1) w1 T N1 → Calls Try.prog 7 #[vx S M1, vx T N1] w1 fun e w' => e = .returned (.bool (sameR S T)) ∧ Below w1.heap.size w1 w') := fun M1 N1 w1 h1 h2 => implSame_any S M1 T N1 w1 h1 h2 hcS hcT
  have H8S : Hid (∀ M1 M2 w1, In AnyB w1 S M1 → In AnyB w1 S M2 → Calls Try.prog 8 #[vx S M1, vx S M2] w1 fun e w' => e = .returned (.bool true) ∧ Below w1.heap.size w1 w') := fun M1 M2 w1 h1 h2 => eqRex_same S M1 M2 w1 h1 h2 hcS
  have H8T : Hid (∀ M1 M2 w1, In AnyB w1 T M1 → In AnyB w1 T M2 → Calls Try.prog 8 #[vx T M1, vx T M2] w1 fun e w' => e = .returned (.bool true) ∧ Below w1.heap.size w1 w') := fun M1 M2 w1 h1 h2 => eqRex_same T M1 M2 w1 h1 h2 hcT
  obtain ⟨z, hz⟩ : ∃ z : Nat, cnt S = z := ⟨_, rfl⟩
  obtain ⟨z', hz'⟩ : ∃ z' : Nat, cnt T = z' := ⟨_, rfl⟩
  obtain ⟨ok, hok⟩ : ∃ ok : Bool, sameR S T = ok := ⟨_, rfl⟩
  have hz1 : ¬ 1048576 - (z : Int) < 0 := by omega
  have hz2 : ¬ 1048576 - (z : Int) - (z' : Int) < 0 := by omega
  have hoo : (ok != ok) = false := by simp
  rw [hz] at HZS HZT
  rw [hz'] at HZT
  rw [hok] at H5 H7
  rw [hv] at HZS HA
  rw [hu] at HZT HBB
  rw [hv, hu]
  clear hv hu hc hd hz hz' hok hcS hcT hS hT hB0
  go_enter Try.func3, Try.ntmps3
  go_wp2_with fail
  rw [← hW0]
  clear hW0 x0 x1 x2 y0 y1 y2
  refine HZS.out.mono ?_
  rintro e w1 ⟨rfl, hb1⟩
  obtain ⟨⟨p0, p1, p2⟩, q0, q1, q2⟩ := HX.out w1 hb1
  go_wp2_with fail
  refine (HZT.out _ hb1).mono ?_
  rintro e w2 ⟨rfl, hb2⟩
  have hB2 := hb1.trans (hb2.mono hb1.size)
  clear p0 p1 p2 q0 q1 q2 HZS HZT
  obtain ⟨⟨p0, p1, p2⟩, q0, q1, q2⟩ := HX.out w2 hB2
  have hBd := hB2.drew
  go_wp2_with fail
  go_cut [6] from 10 (fun s6 wc => s6 = .bool ok ∧ Below W0.heap.size W0 wc)
  case first =>
    have keepA : Hid (∀ V, Below w2.drew.heap.size w2.drew V → (V.cell? ⟨w.heap.size, 0, none⟩ = some (.int .i64 S.kind) ∧ V.cell? ⟨w.heap.size, 1, none⟩ = some (.slice a n c) ∧ V.cell? ⟨w.heap.size, 2, none⟩ = some (.slice a' m c')) ∧
      V.cell? ⟨w.heap.size + 1, 0, none⟩ = some (.int .i64 T.kind) ∧ V.cell? ⟨w.heap.size + 1, 1, none⟩ = some (.slice b k d) ∧ V.cell? ⟨w.heap.size + 1, 2, none⟩ = some (.slice b' j d')) := fun V hb => HX.out V (hBd.trans (hb.mono hBd.size))
    go_region_held (fun V => (V.cell? ⟨w.heap.size, 0, none⟩ = some (.int .i64 S.kind) ∧ V.cell? ⟨w.heap.size, 1, none⟩ = some (.slice a n c) ∧ V.cell? ⟨w.heap.size, 2, none⟩ = some (.slice a' m c')) ∧
      V.cell? ⟨w.heap.size + 1, 0, none⟩ = some (.int .i64 T.kind) ∧ V.cell? ⟨w.heap.size + 1, 1, none⟩ = some (.slice b k d) ∧ V.cell? ⟨w.heap.size + 1, 2, none⟩ = some (.slice b' j d')) (go_keep)
      (first
        | (go_at_call 5; refine (H5.out MA MB wB (In.any (hinA.below hbB)) (In.any hinB)).mono ?_; rintro e w5 ⟨rfl, hb5⟩; obtain ⟨⟨r0, r1, r2⟩, r3, r4, r5⟩ := keepA.out w5 ((hbA.trans (hbB.mono hbA.size)).trans (hb5.mono (hbA.trans (hbB.mono hbA.size)).size)); have hEND : Below W0.heap.size W0 w5 := hBd.trans (((hbA.trans (hbB.mono hbA.size)).trans (hb5.mono (hbA.trans (hbB.mono hbA.size)).size)).mono hBd.size))
        | (go_at_call 5; refine (H5.out MA MB wA (In.any hinA) (In.any (hinB.below hbA))).mono ?_; rintro e w5 ⟨rfl, hb5⟩; obtain ⟨⟨r0, r1, r2⟩, r3, r4, r5⟩ := keepA.out w5 ((hbB.trans (hbA.mono hbB.size)).trans (hb5.mono (hbB.trans (hbA.mono hbB.size)).size)); have hEND : Below W0.heap.size W0 w5 := hBd.trans (((hbB.trans (hbA.mono hbB.size)).trans (hb5.mono (hbB.trans (hbA.mono hbB.size)).size)).mono hBd.size))
        | (go_at_call 6; refine (HA.out wB (hBd.trans (hbB.mono hBd.size))).mono ?_; rintro e wA ⟨MA, rfl, hinA, hbA⟩; obtain ⟨⟨s0, s1, s2⟩, s3, s4, s5⟩ := keepA.out wA (hbB.trans (hbA.mono hbB.size)))
        | (go_at_call 6; refine (HBB.out wA (hBd.trans (hbA.mono hBd.size))).mono ?_; rintro e wB ⟨MB, rfl, hinB, hbB⟩; obtain ⟨⟨s0, s1, s2⟩, s3, s4, s5⟩ := keepA.out wB (hbA.trans (hbB.mono hbA.size)))
        | (go_at_call 6; refine (HA.out w2.drew hBd).mono ?_; rintro e wA ⟨MA, rfl, hinA, hbA⟩; obtain ⟨⟨t0, t1, t2⟩, t3, t4, t5⟩ := keepA.out wA hbA)
        | (go_at_call 6; refine (HBB.out w2.drew hBd).mono ?_; rintro e wB ⟨MB, rfl, hinB, hbB⟩; obtain ⟨⟨t0, t1, t2⟩, t3, t4, t5⟩ := keepA.out wB hbB))
    all_goals go_wp2_with fail
    all_goals
      go_meet
      exact ⟨rfl, hEND⟩
  case rest =>
    obtain ⟨rfl, hB3⟩ := hcut
    clear p0 p1 p2 q0 q1 q2 hBd hB2 hb2 hb1
    obtain ⟨⟨p0, p1, p2⟩, q0, q1, q2⟩ := HX.out wc hB3
    go_wp2_with fail
    refine (HA.out _ hB3).mono ?_
    rintro e w4 ⟨M1, rfl, hin1, hb4⟩
    have hB4 := hB3.trans (hb4.mono hB3.size)
    obtain ⟨e1, e2, e3, e4, e5, e6, hv1⟩ := hin1.value
    obtain ⟨X0, hX0⟩ : ∃ X0 : Obj, X0 = .cells #[.int .i64 S.kind, .slice e1 e2 e3, .slice e4 e5 e6] 31 := ⟨_, rfl⟩
    have HBX0 : Hid (Below w4.heap.size w4 (w4.alloc X0)) := (Below.refl _ _).alloc (Nat.le_refl _) _
    have HIN1 : Hid (In (fun k => wc.heap.size ≤ k ∧ Soft w4 k) w4 S M1) := hin1
    have HV1 : Hid (vx S M1 = .agg #[.int .i64 S.kind, .slice e1 e2 e3, .slice e4 e5 e6]) := hv1
    have hB5 : Below W0.heap.size W0 (w4.alloc X0) := hB4.trans (HBX0.out.mono hB4.size)
    have h70 : (w4.alloc X0).cell? ⟨w4.heap.size, 0, none⟩ = some (.int .i64 S.kind) := by rw [hX0]; simp [go_sem]
    have h71 : (w4.alloc X0).cell? ⟨w4.heap.size, 1, none⟩ = some (.slice e1 e2 e3) := by rw [hX0]; simp [go_sem]
    have h72 : (w4.alloc X0).cell? ⟨w4.heap.size, 2, none⟩ = some (.slice e4 e5 e6) := by rw [hX0]; simp [go_sem]
    have HX0 : Hid (∀ V, Below (w4.alloc X0).heap.size (w4.alloc X0) V → V.cell? ⟨w4.heap.size, 0, none⟩ = some (.int .i64 S.kind) ∧ V.cell? ⟨w4.heap.size, 1, none⟩ = some (.slice e1 e2 e3) ∧ V.cell? ⟨w4.heap.size, 2, none⟩ = some (.slice e4 e5 e6)) := fun V hb =>
      ⟨(hb.cell (p := ⟨_, _, none⟩) (World.block_lt_of_cell? _ _ h70)).trans h70, (hb.cell (p := ⟨_, _, none⟩) (World.block_lt_of_cell? _ _ h71)).trans h71, (hb.cell (p := ⟨_, _, none⟩) (World.block_lt_of_cell? _ _ h72)).trans h72⟩
    rw [hv1]
    clear hv1 hin1 p0 p1 p2 q0 q1 q2 h70 h71 h72
    obtain ⟨⟨p0, p1, p2⟩, q0, q1, q2⟩ := HX.out _ hB5
    have HIN2 : Hid (In (Soft (w4.alloc X0)) (w4.alloc X0) S M1) := HIN1.out.soft HBX0.out
    rw [hX0] at q0 q1 q2
    have HHX : Hid (X0 = .cells #[.int .i64 S.kind, .slice e1 e2 e3, .slice e4 e5 e6] 31) := hX0
    clear hX0 p0 p1 p2
    go_wp2_with fail
    clear q0 q1 q2
    rw [← HHX.out]
    clear HHX
    refine (HBB.out _ hB5).mono ?_
    rintro e w5 ⟨N1, rfl, hin3, hb5⟩
    have hB6 := hB5.trans (hb5.mono hB5.size)
    obtain ⟨f1, f2, f3, f4, f5, f6, hu1⟩ := hin3.value
    obtain ⟨Y0, hY0⟩ : ∃ Y0 : Obj, Y0 = .cells #[.int .i64 T.kind, .slice f1 f2 f3, .slice f4 f5 f6] 31 := ⟨_, rfl⟩
    have hbY : Below w5.heap.size w5 (w5.alloc Y0) := (Below.refl _ _).alloc (Nat.le_refl _) _
    have HU1 : Hid (vx T N1 = .agg #[.int .i64 T.kind, .slice f1 f2 f3, .slice f4 f5 f6]) := hu1
    have HIN4 : Hid (In (Soft (w5.alloc Y0)) (w5.alloc Y0) T N1) := hin3.soft hbY
    have hb5Y := hb5.trans (hbY.mono hb5.size)
    have HIN5 : Hid (In (Soft (w5.alloc Y0)) (w5.alloc Y0) S M1) := (HIN2.out.below hb5Y).mono (fun k hk => hk.below hb5Y)
    have hB7 : Below W0.heap.size W0 (w5.alloc Y0) := hB6.trans (hbY.mono hB6.size)
    have g70 : (w5.alloc Y0).cell? ⟨w5.heap.size, 0, none⟩ = some (.int .i64 T.kind) := by rw [hY0]; simp [go_sem]
    have g71 : (w5.alloc Y0).cell? ⟨w5.heap.size, 1, none⟩ = some (.slice f1 f2 f3) := by rw [hY0]; simp [go_sem]
    have g72 : (w5.alloc Y0).cell? ⟨w5.heap.size, 2, none⟩ = some (.slice f4 f5 f6) := by rw [hY0]; simp [go_sem]
    have HY0 : Hid (∀ V, Below (w5.alloc Y0).heap.size (w5.alloc Y0) V → V.cell? ⟨w5.heap.size, 0, none⟩ = some (.int .i64 T.kind) ∧ V.cell? ⟨w5.heap.size, 1, none⟩ = some (.slice f1 f2 f3) ∧ V.cell? ⟨w5.heap.size, 2, none⟩ = some (.slice f4 f5 f6)) := fun V hb =>
      ⟨(hb.cell (p := ⟨_, _, none⟩) (World.block_lt_of_cell? _ _ g70)).trans g70, (hb.cell (p := ⟨_, _, none⟩) (World.block_lt_of_cell? _ _ g71)).trans g71, (hb.cell (p := ⟨_, _, none⟩) (World.block_lt_of_cell? _ _ g72)).trans g72⟩
    obtain ⟨l0, l1, l2⟩ := HX0.out _ hb5Y
    have H7' : Hid (Calls Try.prog 7 #[.agg #[.int .i64 S.kind, .slice e1 e2 e3, .slice e4 e5 e6], .agg #[.int .i64 T.kind, .slice f1 f2 f3, .slice f4 f5 f6]] (w5.alloc Y0) fun e w' => e = .returned (.bool ok) ∧ Below (w5.alloc Y0).heap.size (w5.alloc Y0) w') := by
      have h := H7.out M1 N1 (w5.alloc Y0) HIN5.out HIN4.out
      rw [HV1.out, HU1.out] at h
      exact h
    rw [hu1]
    clear hu1 hin3
    rw [hY0] at l0 l1 l2 g70 g71 g72
    have HHY : Hid (Y0 = .cells #[.int .i64 T.kind, .slice f1 f2 f3, .slice f4 f5 f6] 31) := hY0
    clear hY0
    go_wp2_with fail
    clear l0 l1 l2 g70 g71 g72
    rw [← HHY.out]
    clear HHY
    refine H7'.out.mono ?_
    rintro e w6 ⟨rfl, hb6⟩
    have hB8 := hB7.trans (hb6.mono hB7.size)
    have hb56 := hb5Y.trans (hb6.mono hb5Y.size)
    obtain ⟨⟨p0, p1, p2⟩, _, _, _⟩ := HX.out w6 hB8
    obtain ⟨l0, l1, l2⟩ := HX0.out w6 hb56
    have hB8d := hB8.drew
    have hb56d := hb56.drew
    have hb6d := hb6.drew
    have HI6 : Hid (In AnyB w6.drew S M1) := In.any (HIN5.out.below hb6d)
    go_wp2_with fail
    go_cut [39] from 10 (fun s39 wc => s39 = .bool false ∧ Below (w5.alloc Y0).heap.size (w5.alloc Y0) wc)
    case first =>
      go_region_held (fun V => (V.cell? ⟨w.heap.size, 0, none⟩ = some (.int .i64 S.kind) ∧ V.cell? ⟨w.heap.size, 1, none⟩ = some (.slice a n c) ∧ V.cell? ⟨w.heap.size, 2, none⟩ = some (.slice a' m c')) ∧
        V.cell? ⟨w4.heap.size, 0, none⟩ = some (.int .i64 S.kind) ∧ V.cell? ⟨w4.heap.size, 1, none⟩ = some (.slice e1 e2 e3) ∧ V.cell? ⟨w4.heap.size, 2, none⟩ = some (.slice e4 e5 e6)) (go_keep)
        (first
          | (go_at_call 8; have h8 := H8S.out M1 M7 w7 (HI6.out.below hb7) (In.any hin7); rw [HV1.out] at h8; refine h8.mono ?_; clear h8; rintro e w8 ⟨rfl, hb8⟩; obtain ⟨⟨r0, r1, r2⟩, _, _, _⟩ := HX.out w8 (hB8d.trans ((hb7.trans (hb8.mono hb7.size)).mono hB8d.size)); obtain ⟨r3, r4, r5⟩ := HX0.out w8 (hb56d.trans ((hb7.trans (hb8.mono hb7.size)).mono hb56d.size)); have hEND : Below (w5.alloc Y0).heap.size (w5.alloc Y0) w8 := hb6d.trans ((hb7.trans (hb8.mono hb7.size)).mono hb6d.size))
          | (go_at_call 6; refine (HA.out w6.drew hB8d).mono ?_; rintro e w7 ⟨M7, rfl, hin7, hb7⟩; obtain ⟨⟨s0, s1, s2⟩, _, _, _⟩ := HX.out w7 (hB8d.trans (hb7.mono hB8d.size)); obtain ⟨s3, s4, s5⟩ := HX0.out w7 (hb56d.trans (hb7.mono hb56d.size))))
      all_goals go_wp2_with fail
      all_goals
        go_meet
        exact ⟨rfl, hEND⟩
    case rest =>
      obtain ⟨rfl, hb9⟩ := hcut
      have hB9 := hB7.trans (hb9.mono hB7.size)
      clear p0 p1 p2 l0 l1 l2 hB8d hb56d hb6d HI6 hb6 hb56 hB8
      obtain ⟨_, q0, q1, q2⟩ := HX.out wc hB9
      obtain ⟨l0, l1, l2⟩ := HY0.out wc hb9
      have hB9d := hB9.drew
      have hb9d := hb9.drew
      have HI9 : Hid (In AnyB wc.drew T N1) := In.any (HIN4.out.below hb9d)
      go_wp2_with fail
      go_region_held (fun V => (V.cell? ⟨w.heap.size + 1, 0, none⟩ = some (.int .i64 T.kind) ∧ V.cell? ⟨w.heap.size + 1, 1, none⟩ = some (.slice b k d) ∧ V.cell? ⟨w.heap.size + 1, 2, none⟩ = some (.slice b' j d')) ∧
        V.cell? ⟨w5.heap.size, 0, none⟩ = some (.int .i64 T.kind) ∧ V.cell? ⟨w5.heap.size, 1, none⟩ = some (.slice f1 f2 f3) ∧ V.cell? ⟨w5.heap.size, 2, none⟩ = some (.slice f4 f5 f6)) (go_keep)
        (first
          | (go_at_call 8; have h8 := H8T.out N1 M7 w7 (HI9.out.below hb7) (In.any hin7); rw [HU1.out] at h8; refine h8.mono ?_; clear h8; rintro e w8 ⟨rfl, hb8⟩; obtain ⟨_, r0, r1, r2⟩ := HX.out w8 (hB9d.trans ((hb7.trans (hb8.mono hb7.size)).mono hB9d.size)); obtain ⟨r3, r4, r5⟩ := HY0.out w8 (hb9d.trans ((hb7.trans (hb8.mono hb7.size)).mono hb9d.size)); have hEND : Below W0.heap.size W0 w8 := hB9d.trans ((hb7.trans (hb8.mono hb7.size)).mono hB9d.size))
          | (go_at_call 6; refine (HBB.out wc.drew hB9d).mono ?_; rintro e w7 ⟨M7, rfl, hin7, hb7⟩; obtain ⟨_, s0, s1, s2⟩ := HX.out w7 (hB9d.trans (hb7.mono hB9d.size)); obtain ⟨s3, s4, s5⟩ := HY0.out w7 (hb9d.trans (hb7.mono hb9d.size))))
      all_goals go_wp2_with fail
      all_goals
        go_ret
        exact ⟨rfl, HB0.out.trans (hEND.mono HB0.out.size)⟩
end Go.Proofs.Ytbbenhhckdmbnaa
