/- the walk of the law of DfaSame -/
import Derived.Test.YtmgojhlfnbjodaaJe
import Derived.Deep.Cut
namespace Go.Proofs.Ytmgojhlfnbjodaa
open Go.RowKit
set_option linter.unusedVariables false
set_option linter.unusedSimpArgs false

/-- the machine's three lists lie in a box -/
def Bx (w : World) (b : Nat) (D : Dx) : Prop := w.cell? ⟨b, 0, none⟩ = some (.slice D.pa D.pn D.pc) ∧ w.cell? ⟨b, 1, none⟩ = some (.slice D.ra D.rn D.rc) ∧ w.cell? ⟨b, 2, none⟩ = some (.slice D.aa D.an D.ac)
theorem Bx.below {w w' : World} {b : Nat} {D : Dx} (h : Bx w b D) (hb : Below w.heap.size w w') : Bx w' b D :=
  ⟨(hb.cell (p := ⟨_, _, none⟩) (World.block_lt_of_cell? _ _ h.1)).trans h.1, (hb.cell (p := ⟨_, _, none⟩) (World.block_lt_of_cell? _ _ h.2.1)).trans h.2.1, (hb.cell (p := ⟨_, _, none⟩) (World.block_lt_of_cell? _ _ h.2.2)).trans h.2.2⟩

set_option maxRecDepth 100000 in
set_option maxHeartbeats 4000000 in
theorem lawDfaSame (D D' : Dx) (w : World) (h : DIn w D) (h' : DIn w D') (hm : DLe D 9223372036854775807) (hm' : DLe D' 9223372036854775807) :
    Calls Try.prog 3 #[dv D, dv D'] w fun e w' => e = .returned (.bool true) ∧ Below w.heap.size w w' := by
  obtain ⟨W0, hW0⟩ : ∃ W0, W0 = (w.alloc (.cells #[.slice D.pa D.pn D.pc, .slice D.ra D.rn D.rc, .slice D.aa D.an D.ac] 26)).alloc (.cells #[.slice D'.pa D'.pn D'.pc, .slice D'.ra D'.rn D'.rc, .slice D'.aa D'.an D'.ac] 26) := ⟨_, rfl⟩
  have hb0 : Below w.heap.size w W0 := by rw [hW0]; exact ((Below.refl _ _).alloc (Nat.le_refl _) _).alloc (by simp) _
  have HB0 : Hid (Below w.heap.size w W0) := hb0
  have x0 : W0.cell? ⟨w.heap.size, 0, none⟩ = some (.slice D.pa D.pn D.pc) := by rw [hW0]; simp [go_sem]
  have x1 : W0.cell? ⟨w.heap.size, 1, none⟩ = some (.slice D.ra D.rn D.rc) := by rw [hW0]; simp [go_sem]
  have x2 : W0.cell? ⟨w.heap.size, 2, none⟩ = some (.slice D.aa D.an D.ac) := by rw [hW0]; simp [go_sem]
  have y0 : W0.cell? ⟨w.heap.size + 1, 0, none⟩ = some (.slice D'.pa D'.pn D'.pc) := by rw [hW0]; simp [go_sem]
  have y1 : W0.cell? ⟨w.heap.size + 1, 1, none⟩ = some (.slice D'.ra D'.rn D'.rc) := by rw [hW0]; simp [go_sem]
  have y2 : W0.cell? ⟨w.heap.size + 1, 2, none⟩ = some (.slice D'.aa D'.an D'.ac) := by rw [hW0]; simp [go_sem]
  have HX : Hid (∀ V, Below W0.heap.size W0 V → Bx V w.heap.size D ∧ Bx V (w.heap.size + 1) D') := fun V hb => ⟨Bx.below ⟨x0, x1, x2⟩ hb, Bx.below ⟨y0, y1, y2⟩ hb⟩
  have HZ : Hid (Calls Try.prog 4 #[dv D, .int .i64 1048576] W0 fun e w' => e = .returned (.int .i64 (leftOf 1048576 (cntD D))) ∧ Below W0.heap.size W0 w') := szDfa_any D 1048576 W0 (h.below hb0) hm (by omega) (by omega)
  by_cases hc : 1048576 < cntD D
  · rw [show leftOf 1048576 (cntD D) = -1 from leftOf_neg (by omega)] at HZ
    clear h h' hm hm' hc x0 x1 x2 y0 y1 y2
    rw [dv] at HZ
    rw [dv, dv]
    go_enter Try.func3, Try.ntmps3
    go_wp2_with fail
    rw [← hW0]
    clear hW0
    refine HZ.out.mono ?_
    rintro e w1 ⟨rfl, hb1⟩
    go_wp2_with fail
    go_ret
    exact ⟨rfl, HB0.out.trans (hb1.mono HB0.out.size)⟩
  obtain ⟨z, hz⟩ : ∃ z : Nat, cntD D = z := ⟨_, rfl⟩
  rw [show leftOf 1048576 (cntD D) = 1048576 - (z : Int) by rw [leftOf_pos (by omega), hz]] at HZ
  have hz1 : ¬ 1048576 - (z : Int) < 0 := by omega
  have HZ2 : Hid (∀ V, Below W0.heap.size W0 V → Calls Try.prog 4 #[dv D', .int .i64 (1048576 - (z : Int))] V fun e w' => e = .returned (.int .i64 (leftOf (1048576 - (z : Int)) (cntD D'))) ∧ Below V.heap.size V w') := fun V hb => szDfa_any D' _ V (h'.below (hb0.trans (hb.mono hb0.size))) hm' (by omega) (by omega)
  by_cases hc2 : 1048576 - (z : Int) < cntD D'
  · rw [show leftOf (1048576 - (z : Int)) (cntD D') = -1 from leftOf_neg (by omega)] at HZ2
    clear h h' hm hm' hc hc2 hz x0 x1 x2 y0 y1 y2
    rw [dv] at HZ HZ2
    rw [dv, dv]
    go_enter Try.func3, Try.ntmps3
    go_wp2_with fail
    rw [← hW0]
    clear hW0
    refine HZ.out.mono ?_
    rintro e w1 ⟨rfl, hb1⟩
    obtain ⟨⟨p0, p1, p2⟩, q0, q1, q2⟩ := HX.out w1 hb1
    go_wp2_with fail
    refine (HZ2.out _ hb1).mono ?_
    rintro e w2 ⟨rfl, hb2⟩
    go_wp2_with fail
    go_ret
    exact ⟨rfl, HB0.out.trans ((hb1.trans (hb2.mono hb1.size)).mono HB0.out.size)⟩
  obtain ⟨z', hz'⟩ : ∃ z' : Nat, cntD D' = z' := ⟨_, rfl⟩
  rw [show leftOf (1048576 - (z : Int)) (cntD D') = 1048576 - (z : Int) - (z' : Int) by rw [leftOf_pos (by omega), hz']] at HZ2
  have hz2 : ¬ 1048576 - (z : Int) - (z' : Int) < 0 := by omega
  have hl : DLe D 1048576 := DLe.of_cnt (by omega)
  have hl' : DLe D' 1048576 := DLe.of_cnt (by omega)
  have HA : Hid (∀ V, Below W0.heap.size W0 V → Calls Try.prog 6 #[dv D] V (ToD D V)) := fun V hb => toDfa_any D V (h.below (hb0.trans (hb.mono hb0.size))) hl
  have HBB : Hid (∀ V, Below W0.heap.size W0 V → Calls Try.prog 6 #[dv D'] V (ToD D' V)) := fun V hb => toDfa_any D' V (h'.below (hb0.trans (hb.mono hb0.size))) hl'
  obtain ⟨ok, HOK⟩ : ∃ ok : Bool, Hid (ok = true ↔ DEq D D') := ⟨@decide _ (Classical.propDecidable _), by rw [Hid]; exact @decide_eq_true_iff _ (Classical.propDecidable _)⟩
  have H5 : Hid (∀ D1 D2 V, DIn V D1 → DIn V D2 → DEq D D1 → DEq D' D2 → Calls Try.prog 5 #[dv D1, dv D2] V fun e w' => e = .returned (.bool ok) ∧ Below V.heap.size V w') := fun D1 D2 V h1 h2 e1 e2 =>
    (specDfaSame_any D1 D2 V h1 h2 ((hl.of_eq e1).mono (by omega)) ((hl'.of_eq e2).mono (by omega))).mono fun e w' ⟨b, hb, hi, hbl⟩ => ⟨by
      rw [hb]
      refine ret_bool ?_
      rw [Bool.eq_iff_iff, hi, HOK.out]
      exact ⟨fun h => (e1.trans h).trans e2.symm, fun h => (e1.symm.trans h).trans e2⟩, hbl⟩
  have H7 : Hid (∀ D1 D2 V, DIn V D1 → DIn V D2 → DEq D D1 → DEq D' D2 → Calls Try.prog 7 #[dv D1, dv D2] V fun e w' => e = .returned (.bool ok) ∧ Below V.heap.size V w') := fun D1 D2 V h1 h2 e1 e2 =>
    (implDfaSame_any D1 D2 V h1 h2 ((hl.of_eq e1).mono (by omega)) ((hl'.of_eq e2).mono (by omega))).mono fun e w' ⟨b, hb, hi, hbl⟩ => ⟨by
      rw [hb]
      refine ret_bool ?_
      rw [Bool.eq_iff_iff, hi, HOK.out]
      exact ⟨fun h => (e1.trans h).trans e2.symm, fun h => (e1.symm.trans h).trans e2⟩, hbl⟩
  have H8S : Hid (∀ D1 D2 V, DIn V D1 → DIn V D2 → DEq D D1 → DEq D D2 → Calls Try.prog 8 #[dv D1, dv D2] V fun e w' => e = .returned (.bool true) ∧ Below V.heap.size V w') := fun D1 D2 V h1 h2 e1 e2 =>
    eqDfa_any D1 D2 V h1 h2 ((hl.of_eq e1).mono (by omega)) (e1.symm.trans e2)
  have H8T : Hid (∀ D1 D2 V, DIn V D1 → DIn V D2 → DEq D' D1 → DEq D' D2 → Calls Try.prog 8 #[dv D1, dv D2] V fun e w' => e = .returned (.bool true) ∧ Below V.heap.size V w') := fun D1 D2 V h1 h2 e1 e2 =>
    eqDfa_any D1 D2 V h1 h2 ((hl'.of_eq e1).mono (by omega)) (e1.symm.trans e2)
  have hoo : (ok != ok) = false := by simp
  clear h h' hm hm' hc hc2 hz hz' x0 x1 x2 y0 y1 y2 hl hl' HOK hb0
  simp only [dv] at HZ HZ2 HA HBB H5 H7 H8S H8T
  rw [dv, dv]
  go_enter Try.func3, Try.ntmps3
  go_wp2_with fail
  rw [← hW0]
  clear hW0
  refine HZ.out.mono ?_
  rintro e w1 ⟨rfl, hb1⟩
  obtain ⟨⟨p0, p1, p2⟩, q0, q1, q2⟩ := HX.out w1 hb1
  go_wp2_with fail
  refine (HZ2.out _ hb1).mono ?_
  rintro e w2 ⟨rfl, hb2⟩
  have hB2 := hb1.trans (hb2.mono hb1.size)
  clear p0 p1 p2 q0 q1 q2 HZ HZ2
  obtain ⟨⟨p0, p1, p2⟩, q0, q1, q2⟩ := HX.out w2 hB2
  have hBd := hB2.drew
  go_wp2_with fail
  go_cut [6] from 20 (fun s6 wc => s6 = .bool ok ∧ Below W0.heap.size W0 wc)
  case first =>
    have keepA : Hid (∀ V, Below w2.drew.heap.size w2.drew V → Bx V w.heap.size D ∧ Bx V (w.heap.size + 1) D') := fun V hb => HX.out V (hBd.trans (hb.mono hBd.size))
    go_region_held (fun V => (V.cell? ⟨w.heap.size, 0, none⟩ = some (.slice D.pa D.pn D.pc) ∧ V.cell? ⟨w.heap.size, 1, none⟩ = some (.slice D.ra D.rn D.rc) ∧ V.cell? ⟨w.heap.size, 2, none⟩ = some (.slice D.aa D.an D.ac)) ∧ V.cell? ⟨w.heap.size + 1, 0, none⟩ = some (.slice D'.pa D'.pn D'.pc) ∧ V.cell? ⟨w.heap.size + 1, 1, none⟩ = some (.slice D'.ra D'.rn D'.rc) ∧ V.cell? ⟨w.heap.size + 1, 2, none⟩ = some (.slice D'.aa D'.an D'.ac)) (go_keep)
      (first
        | (go_at_call 5; refine (H5.out DA DB wB (hinA.below hbB) hinB heA heB).mono ?_; rintro e w5 ⟨rfl, hb5⟩; obtain ⟨⟨r0, r1, r2⟩, r3, r4, r5⟩ := keepA.out w5 ((hbA.trans (hbB.mono hbA.size)).trans (hb5.mono (hbA.trans (hbB.mono hbA.size)).size)); have hEND : Below W0.heap.size W0 w5 := hBd.trans (((hbA.trans (hbB.mono hbA.size)).trans (hb5.mono (hbA.trans (hbB.mono hbA.size)).size)).mono hBd.size))
        | (go_at_call 5; refine (H5.out DA DB wA hinA (hinB.below hbA) heA heB).mono ?_; rintro e w5 ⟨rfl, hb5⟩; obtain ⟨⟨r0, r1, r2⟩, r3, r4, r5⟩ := keepA.out w5 ((hbB.trans (hbA.mono hbB.size)).trans (hb5.mono (hbB.trans (hbA.mono hbB.size)).size)); have hEND : Below W0.heap.size W0 w5 := hBd.trans (((hbB.trans (hbA.mono hbB.size)).trans (hb5.mono (hbB.trans (hbA.mono hbB.size)).size)).mono hBd.size))
        | (go_at_call 6; refine (HA.out wB (hBd.trans (hbB.mono hBd.size))).mono ?_; rintro e wA ⟨DA, rfl, hinA, heA, hbA⟩; obtain ⟨⟨s0, s1, s2⟩, s3, s4, s5⟩ := keepA.out wA (hbB.trans (hbA.mono hbB.size)))
        | (go_at_call 6; refine (HBB.out wA (hBd.trans (hbA.mono hBd.size))).mono ?_; rintro e wB ⟨DB, rfl, hinB, heB, hbB⟩; obtain ⟨⟨s0, s1, s2⟩, s3, s4, s5⟩ := keepA.out wB (hbA.trans (hbB.mono hbA.size)))
        | (go_at_call 6; refine (HA.out w2.drew hBd).mono ?_; rintro e wA ⟨DA, rfl, hinA, heA, hbA⟩; obtain ⟨⟨t0, t1, t2⟩, t3, t4, t5⟩ := keepA.out wA hbA)
        | (go_at_call 6; refine (HBB.out w2.drew hBd).mono ?_; rintro e wB ⟨DB, rfl, hinB, heB, hbB⟩; obtain ⟨⟨t0, t1, t2⟩, t3, t4, t5⟩ := keepA.out wB hbB))
    all_goals go_wp2_with fail
    all_goals
      go_meet
      exact ⟨rfl, hEND⟩
  case rest =>
    obtain ⟨rfl, hB3⟩ := hcut
    clear p0 p1 p2 q0 q1 q2 hBd hB2 hb2 hb1
    obtain ⟨⟨p0, p1, p2⟩, q0, q1, q2⟩ := HX.out wc hB3
    go_wp2_with fail
    refine (HA.out _ hB3).mono ?_
    rintro e w4 ⟨D1, rfl, hin1, he1, hb4⟩
    have hB4 := hB3.trans (hb4.mono hB3.size)
    simp only [dv]
    obtain ⟨X0, hX0⟩ : ∃ X0 : Obj, X0 = .cells #[.slice D1.pa D1.pn D1.pc, .slice D1.ra D1.rn D1.rc, .slice D1.aa D1.an D1.ac] 31 := ⟨_, rfl⟩
    have HBX0 : Hid (Below w4.heap.size w4 (w4.alloc X0)) := (Below.refl _ _).alloc (Nat.le_refl _) _
    have HIN1 : Hid (DIn w4 D1) := hin1
    have HE1 : Hid (DEq D D1) := he1
    have hB5 : Below W0.heap.size W0 (w4.alloc X0) := hB4.trans (HBX0.out.mono hB4.size)
    have HX0 : Hid (∀ V, Below (w4.alloc X0).heap.size (w4.alloc X0) V → Bx V w4.heap.size D1) := fun V hb => Bx.below ⟨by rw [hX0]; simp [go_sem], by rw [hX0]; simp [go_sem], by rw [hX0]; simp [go_sem]⟩ hb
    clear hin1 he1 p0 p1 p2 q0 q1 q2
    obtain ⟨⟨p0, p1, p2⟩, q0, q1, q2⟩ := HX.out _ hB5
    have HIN2 : Hid (DIn (w4.alloc X0) D1) := HIN1.out.below HBX0.out
    rw [hX0] at q0 q1 q2
    have HHX : Hid (X0 = .cells #[.slice D1.pa D1.pn D1.pc, .slice D1.ra D1.rn D1.rc, .slice D1.aa D1.an D1.ac] 31) := hX0
    clear hX0 p0 p1 p2
    go_wp2_with fail
    clear q0 q1 q2
    rw [← HHX.out]
    clear HHX
    refine (HBB.out _ hB5).mono ?_
    rintro e w5 ⟨D2, rfl, hin3, he2, hb5⟩
    have hB6 := hB5.trans (hb5.mono hB5.size)
    simp only [dv]
    obtain ⟨Y0, hY0⟩ : ∃ Y0 : Obj, Y0 = .cells #[.slice D2.pa D2.pn D2.pc, .slice D2.ra D2.rn D2.rc, .slice D2.aa D2.an D2.ac] 31 := ⟨_, rfl⟩
    have hbY : Below w5.heap.size w5 (w5.alloc Y0) := (Below.refl _ _).alloc (Nat.le_refl _) _
    have HIN4 : Hid (DIn (w5.alloc Y0) D2) := hin3.below hbY
    have HE2 : Hid (DEq D' D2) := he2
    have hb5Y := hb5.trans (hbY.mono hb5.size)
    have HIN5 : Hid (DIn (w5.alloc Y0) D1) := HIN2.out.below hb5Y
    have hB7 : Below W0.heap.size W0 (w5.alloc Y0) := hB6.trans (hbY.mono hB6.size)
    have HY0 : Hid (∀ V, Below (w5.alloc Y0).heap.size (w5.alloc Y0) V → Bx V w5.heap.size D2) := fun V hb => Bx.below ⟨by rw [hY0]; simp [go_sem], by rw [hY0]; simp [go_sem], by rw [hY0]; simp [go_sem]⟩ hb
    obtain ⟨l0, l1, l2⟩ := HX0.out _ hb5Y
    obtain ⟨g70, g71, g72⟩ := HY0.out _ (Below.refl _ _)
    have H7' := H7.out D1 D2 (w5.alloc Y0) HIN5.out HIN4.out HE1.out HE2.out
    have HH7 : Hid (Calls Try.prog 7 #[.agg #[.slice D1.pa D1.pn D1.pc, .slice D1.ra D1.rn D1.rc, .slice D1.aa D1.an D1.ac], .agg #[.slice D2.pa D2.pn D2.pc, .slice D2.ra D2.rn D2.rc, .slice D2.aa D2.an D2.ac]] (w5.alloc Y0) fun e w' => e = .returned (.bool ok) ∧ Below (w5.alloc Y0).heap.size (w5.alloc Y0) w') := H7'
    clear hin3 he2 H7'
    rw [hY0] at l0 l1 l2 g70 g71 g72
    have HHY : Hid (Y0 = .cells #[.slice D2.pa D2.pn D2.pc, .slice D2.ra D2.rn D2.rc, .slice D2.aa D2.an D2.ac] 31) := hY0
    clear hY0
    go_wp2_with fail
    clear l0 l1 l2 g70 g71 g72
    rw [← HHY.out]
    clear HHY
    refine HH7.out.mono ?_
    rintro e w6 ⟨rfl, hb6⟩
    have hB8 := hB7.trans (hb6.mono hB7.size)
    have hb56 := hb5Y.trans (hb6.mono hb5Y.size)
    obtain ⟨⟨p0, p1, p2⟩, _, _, _⟩ := HX.out w6 hB8
    obtain ⟨l0, l1, l2⟩ := HX0.out w6 hb56
    have hB8d := hB8.drew
    have hb56d := hb56.drew
    have hb6d := hb6.drew
    have HI6 : Hid (DIn w6.drew D1) := HIN5.out.below hb6d
    go_wp2_with fail
    go_cut [39] from 10 (fun s39 wc => s39 = .bool false ∧ Below (w5.alloc Y0).heap.size (w5.alloc Y0) wc)
    case first =>
      go_region_held (fun V => (V.cell? ⟨w.heap.size, 0, none⟩ = some (.slice D.pa D.pn D.pc) ∧ V.cell? ⟨w.heap.size, 1, none⟩ = some (.slice D.ra D.rn D.rc) ∧ V.cell? ⟨w.heap.size, 2, none⟩ = some (.slice D.aa D.an D.ac)) ∧
        V.cell? ⟨w4.heap.size, 0, none⟩ = some (.slice D1.pa D1.pn D1.pc) ∧ V.cell? ⟨w4.heap.size, 1, none⟩ = some (.slice D1.ra D1.rn D1.rc) ∧ V.cell? ⟨w4.heap.size, 2, none⟩ = some (.slice D1.aa D1.an D1.ac)) (go_keep)
        (first
          | (go_at_call 8; refine (H8S.out D1 D7 w7 (HI6.out.below hb7) hin7 HE1.out he7).mono ?_; rintro e w8 ⟨rfl, hb8⟩; obtain ⟨⟨r0, r1, r2⟩, _, _, _⟩ := HX.out w8 (hB8d.trans ((hb7.trans (hb8.mono hb7.size)).mono hB8d.size)); obtain ⟨r3, r4, r5⟩ := HX0.out w8 (hb56d.trans ((hb7.trans (hb8.mono hb7.size)).mono hb56d.size)); have hEND : Below (w5.alloc Y0).heap.size (w5.alloc Y0) w8 := hb6d.trans ((hb7.trans (hb8.mono hb7.size)).mono hb6d.size))
          | (go_at_call 6; refine (HA.out w6.drew hB8d).mono ?_; rintro e w7 ⟨D7, rfl, hin7, he7, hb7⟩; obtain ⟨⟨s0, s1, s2⟩, _, _, _⟩ := HX.out w7 (hB8d.trans (hb7.mono hB8d.size)); obtain ⟨s3, s4, s5⟩ := HX0.out w7 (hb56d.trans (hb7.mono hb56d.size))))
      all_goals go_wp2_with fail
      all_goals
        go_meet
        exact ⟨rfl, hEND⟩
    case rest =>
      obtain ⟨rfl, hb9⟩ := hcut
      have hB9 := hB7.trans (hb9.mono hB7.size)
      clear p0 p1 p2 l0 l1 l2 hB8d hb56d hb6d HI6 hb6 hb56 hB8
      obtain ⟨_, q0, q1, q2⟩ := HX.out wc hB9
      obtain ⟨l0, l1, l2⟩ := HY0.out wc hb9
      have hB9d := hB9.drew
      have hb9d := hb9.drew
      have HI9 : Hid (DIn wc.drew D2) := HIN4.out.below hb9d
      go_wp2_with fail
      go_region_held (fun V => (V.cell? ⟨w.heap.size + 1, 0, none⟩ = some (.slice D'.pa D'.pn D'.pc) ∧ V.cell? ⟨w.heap.size + 1, 1, none⟩ = some (.slice D'.ra D'.rn D'.rc) ∧ V.cell? ⟨w.heap.size + 1, 2, none⟩ = some (.slice D'.aa D'.an D'.ac)) ∧
        V.cell? ⟨w5.heap.size, 0, none⟩ = some (.slice D2.pa D2.pn D2.pc) ∧ V.cell? ⟨w5.heap.size, 1, none⟩ = some (.slice D2.ra D2.rn D2.rc) ∧ V.cell? ⟨w5.heap.size, 2, none⟩ = some (.slice D2.aa D2.an D2.ac)) (go_keep)
        (first
          | (go_at_call 8; refine (H8T.out D2 D7 w7 (HI9.out.below hb7) hin7 HE2.out he7).mono ?_; rintro e w8 ⟨rfl, hb8⟩; obtain ⟨_, r0, r1, r2⟩ := HX.out w8 (hB9d.trans ((hb7.trans (hb8.mono hb7.size)).mono hB9d.size)); obtain ⟨r3, r4, r5⟩ := HY0.out w8 (hb9d.trans ((hb7.trans (hb8.mono hb7.size)).mono hb9d.size)); have hEND : Below W0.heap.size W0 w8 := hB9d.trans ((hb7.trans (hb8.mono hb7.size)).mono hB9d.size))
          | (go_at_call 6; refine (HBB.out wc.drew hB9d).mono ?_; rintro e w7 ⟨D7, rfl, hin7, he7, hb7⟩; obtain ⟨_, s0, s1, s2⟩ := HX.out w7 (hB9d.trans (hb7.mono hB9d.size)); obtain ⟨s3, s4, s5⟩ := HY0.out w7 (hb9d.trans (hb7.mono hb9d.size))))
      all_goals go_wp2_with fail
      all_goals
        go_ret
        exact ⟨rfl, HB0.out.trans (hEND.mono HB0.out.size)⟩
end Go.Proofs.Ytmgojhlfnbjodaa

