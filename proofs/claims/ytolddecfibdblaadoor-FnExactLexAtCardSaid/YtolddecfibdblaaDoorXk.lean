/- the walk of the law of LexAt -/
import Derived.Test.YtolddecfibdblaaDoorXj
import Derived.Test.YtolddecfibdblaaDoorJf
import Derived.Deep.Cut
namespace Go.Proofs.YtolddecfibdblaaDoor
open Go.RowKit
set_option linter.unusedVariables false
set_option linter.unusedSimpArgs false

set_option maxRecDepth 100000 in
set_option maxHeartbeats 4000000 in
theorem lawLexAt (D : Dx) (t : ByteArray) (a : Int) (w : World) (ht : TabZ w) (h : DIn w D) (hm : DLe D 9223372036854775807) :
    Calls Tryd.prog 5 #[dv D, .string t, .int .i64 a] w fun e w' => e = .returned (.bool true) ∧ Below w.heap.size w w' := by
  obtain ⟨W0, hW0⟩ : ∃ W0, W0 = w.alloc (.cells #[.slice D.pa D.pn D.pc, .slice D.ra D.rn D.rc, .slice D.aa D.an D.ac] 26) := ⟨_, rfl⟩
  have hb0 : Below w.heap.size w W0 := by rw [hW0]; exact (Below.refl _ _).alloc (Nat.le_refl _) _
  have HB0 : Hid (Below w.heap.size w W0) := hb0
  have hw0 : 0 < w.heap.size := World.block_lt_of_cell? _ _ (ht 0 (by omega))
  have HT : Hid (∀ V, Below W0.heap.size W0 V → TabZ V ∧ 0 < V.heap.size) := fun V hb => ⟨(ht.below hb0).below hb, by have h1 := hb.size; have h2 := hb0.size; omega⟩
  have HX : Hid (∀ V, Below W0.heap.size W0 V → Bx V w.heap.size D) := fun V hb => Bx.below ⟨by rw [hW0]; simp [go_sem], by rw [hW0]; simp [go_sem], by rw [hW0]; simp [go_sem]⟩ hb
  have HZ : Hid (Calls Tryd.prog 7 #[dv D, .int .i64 1048576] W0 fun e w' => e = .returned (.int .i64 (leftOf 1048576 (cntD D))) ∧ Below W0.heap.size W0 w') := szDfa_any D 1048576 W0 (h.below hb0) hm (by omega) (by omega)
  by_cases hbig : 1048576 < t.size
  · have hbz : (1048576 : Int) < (t.size : Int) := by omega
    clear h hm
    rw [dv]
    go_enter Tryd.func5, Tryd.ntmps5
    go_wp2_with fail
    rw [← hW0]
    go_ret
    exact ⟨rfl, HB0.out⟩
  have hbz : ¬ (1048576 : Int) < (t.size : Int) := by omega
  by_cases hc : 1048576 < cntD D
  · rw [show leftOf 1048576 (cntD D) = -1 from leftOf_neg (by omega)] at HZ
    clear h hm hc
    rw [dv] at HZ
    rw [dv]
    go_enter Tryd.func5, Tryd.ntmps5
    go_wp2_with fail
    rw [← hW0]
    clear hW0
    refine HZ.out.mono ?_
    rintro e w1 ⟨rfl, hb1⟩
    go_wp2_with fail
    go_ret
    exact ⟨rfl, HB0.out.trans (hb1.mono HB0.out.size)⟩
  obtain ⟨z, hz⟩ : ∃ z : Nat, cntD D = z := ⟨_, rfl⟩
  rw [show leftOf 1048576 (cntD D) = 1048576 - (z : Int) by rw [leftOf_pos (by omega), hz]] at HZ
  have hz1 : ¬ 1048576 - (z : Int) < 0 := by omega
  have hl : DLe D 1048576 := DLe.of_cnt (by omega)
  have HA : Hid (∀ V, Below W0.heap.size W0 V → Calls Tryd.prog 9 #[dv D] V (ToD D V)) := fun V hb => toDfa_any D V (h.below (hb0.trans (hb.mono hb0.size))) hl
  obtain ⟨r, x, HRES⟩ : ∃ r x : Int, Hid (LexAtR D t a r x) := LexAtR.exists D t a
  have H5 : Hid (∀ D1 V, Below W0.heap.size W0 V → DIn V D1 → DEq D D1 → Calls Tryd.prog 14 #[dv D1, .string t, .int .i64 a] V fun e w' => e = .returned (.tuple #[.int .i64 r, .int .i64 x]) ∧ Below V.heap.size V w') := fun D1 V hb h1 e1 =>
    (specLexAt_any D1 t a V h1 ((hl.of_eq e1).mono (by omega)) (by omega)).mono fun e w' ⟨r', x', hb, hi, hbl⟩ => ⟨by rw [hb, ((hi.congr e1.symm).unique HRES.out).1, ((hi.congr e1.symm).unique HRES.out).2], hbl⟩
  have H7 : Hid (∀ D1 V, Below W0.heap.size W0 V → DIn V D1 → DEq D D1 → Calls Tryd.prog 15 #[dv D1, .string t, .int .i64 a] V fun e w' => e = .returned (.tuple #[.int .i64 r, .int .i64 x]) ∧ Below V.heap.size V w') := fun D1 V hb h1 e1 =>
    (implLexAt_any D1 t a V (HT.out V hb).1 (HT.out V hb).2 h1 ((hl.of_eq e1).mono (by omega)) (by omega)).mono fun e w' ⟨r', x', hb, hi, hbl⟩ => ⟨by rw [hb, ((hi.congr e1.symm).unique HRES.out).1, ((hi.congr e1.symm).unique HRES.out).2], hbl⟩
  have H8S : Hid (∀ D1 D2 V, DIn V D1 → DIn V D2 → DEq D D1 → DEq D D2 → Calls Tryd.prog 11 #[dv D1, dv D2] V fun e w' => e = .returned (.bool true) ∧ Below V.heap.size V w') := fun D1 D2 V h1 h2 e1 e2 =>
    eqDfa_any D1 D2 V h1 h2 ((hl.of_eq e1).mono (by omega)) (e1.symm.trans e2)
  have hoo : (r != r) = false := by simp
  have hox : (x != x) = false := by simp
  clear h hm hc hz hl HRES hb0 ht
  simp only [dv] at HZ HA H5 H7 H8S
  rw [dv]
  go_enter Tryd.func5, Tryd.ntmps5
  go_wp2_with fail
  rw [← hW0]
  clear hW0
  refine HZ.out.mono ?_
  rintro e w1 ⟨rfl, hb1⟩
  obtain ⟨p0, p1, p2⟩ := HX.out w1 hb1
  clear HZ
  go_wp2_with fail
  refine (HA.out _ hb1).mono ?_
  rintro e w2 ⟨DA, rfl, hinA, heA, hbA⟩
  have hB2 := hb1.trans (hbA.mono hb1.size)
  simp only [dv]
  go_wp2_with fail
  refine (H5.out DA _ hB2 hinA heA).mono ?_
  rintro e w3 ⟨rfl, hb3⟩
  have hB3 := hB2.trans (hb3.mono hB2.size)
  clear p0 p1 p2 hinA heA
  obtain ⟨p0, p1, p2⟩ := HX.out w3 hB3
  go_wp2_with fail
  refine (HA.out _ hB3).mono ?_
  rintro e w4 ⟨D1, rfl, hin1, he1, hb4⟩
  have hB4 := hB3.trans (hb4.mono hB3.size)
  simp only [dv]
  obtain ⟨X0, hX0⟩ : ∃ X0 : Obj, X0 = .cells #[.slice D1.pa D1.pn D1.pc, .slice D1.ra D1.rn D1.rc, .slice D1.aa D1.an D1.ac] 31 := ⟨_, rfl⟩
  have HBX0 : Hid (Below w4.heap.size w4 (w4.alloc X0)) := (Below.refl _ _).alloc (Nat.le_refl _) _
  have HE1 : Hid (DEq D D1) := he1
  have hB5 : Below W0.heap.size W0 (w4.alloc X0) := hB4.trans (HBX0.out.mono hB4.size)
  have HX0 : Hid (∀ V, Below (w4.alloc X0).heap.size (w4.alloc X0) V → Bx V w4.heap.size D1) := fun V hb => Bx.below ⟨by rw [hX0]; simp [go_sem], by rw [hX0]; simp [go_sem], by rw [hX0]; simp [go_sem]⟩ hb
  have HIN2 : Hid (DIn (w4.alloc X0) D1) := hin1.below HBX0.out
  have H7' := H7.out D1 (w4.alloc X0) hB5 HIN2.out HE1.out
  have HH7 : Hid (Calls Tryd.prog 15 #[.agg #[.slice D1.pa D1.pn D1.pc, .slice D1.ra D1.rn D1.rc, .slice D1.aa D1.an D1.ac], .string t, .int .i64 a] (w4.alloc X0) fun e w' => e = .returned (.tuple #[.int .i64 r, .int .i64 x]) ∧ Below (w4.alloc X0).heap.size (w4.alloc X0) w') := H7'
  obtain ⟨l0, l1, l2⟩ := HX0.out _ (Below.refl _ _)
  clear hin1 he1 H7' p0 p1 p2
  rw [hX0] at l0 l1 l2
  have HHX : Hid (X0 = .cells #[.slice D1.pa D1.pn D1.pc, .slice D1.ra D1.rn D1.rc, .slice D1.aa D1.an D1.ac] 31) := hX0
  clear hX0
  go_wp2_with fail
  clear l0 l1 l2
  rw [← HHX.out]
  clear HHX
  refine HH7.out.mono ?_
  rintro e w6 ⟨rfl, hb6⟩
  have hB8 := hB5.trans (hb6.mono hB5.size)
  obtain ⟨p0, p1, p2⟩ := HX.out w6 hB8
  obtain ⟨l0, l1, l2⟩ := HX0.out w6 hb6
  have hB8d := hB8.drew
  have hb6d := hb6.drew
  have HI6 : Hid (DIn w6.drew D1) := HIN2.out.below hb6d
  go_wp2_with fail
  go_region_held (fun V => (V.cell? ⟨w.heap.size, 0, none⟩ = some (.slice D.pa D.pn D.pc) ∧ V.cell? ⟨w.heap.size, 1, none⟩ = some (.slice D.ra D.rn D.rc) ∧ V.cell? ⟨w.heap.size, 2, none⟩ = some (.slice D.aa D.an D.ac)) ∧
    V.cell? ⟨w4.heap.size, 0, none⟩ = some (.slice D1.pa D1.pn D1.pc) ∧ V.cell? ⟨w4.heap.size, 1, none⟩ = some (.slice D1.ra D1.rn D1.rc) ∧ V.cell? ⟨w4.heap.size, 2, none⟩ = some (.slice D1.aa D1.an D1.ac)) (go_keep)
    (first
      | (go_at_call 11; refine (H8S.out D1 D7 w7 (HI6.out.below hb7) hin7 HE1.out he7).mono ?_; rintro e w8 ⟨rfl, hb8⟩; obtain ⟨r0, r1, r2⟩ := HX.out w8 (hB8d.trans ((hb7.trans (hb8.mono hb7.size)).mono hB8d.size)); obtain ⟨r3, r4, r5⟩ := HX0.out w8 (hb6d.trans ((hb7.trans (hb8.mono hb7.size)).mono hb6d.size)); have hEND : Below W0.heap.size W0 w8 := hB8d.trans ((hb7.trans (hb8.mono hb7.size)).mono hB8d.size))
      | (go_at_call 9; refine (HA.out w6.drew hB8d).mono ?_; rintro e w7 ⟨D7, rfl, hin7, he7, hb7⟩; obtain ⟨s0, s1, s2⟩ := HX.out w7 (hB8d.trans (hb7.mono hB8d.size)); obtain ⟨s3, s4, s5⟩ := HX0.out w7 (hb6d.trans (hb7.mono hb6d.size))))
  all_goals go_wp2_with fail
  all_goals
    go_ret
    exact ⟨rfl, HB0.out.trans (hEND.mono HB0.out.size)⟩
end Go.Proofs.YtolddecfibdblaaDoor

