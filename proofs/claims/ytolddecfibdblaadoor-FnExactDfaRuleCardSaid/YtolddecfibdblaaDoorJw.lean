/- the walks of DfaRule, both sides, and of its law -/
import Derived.Test.YtolddecfibdblaaDoorJu
import Derived.Test.YtolddecfibdblaaDoorJf
import Derived.Deep.Cut
namespace Go.Proofs.YtolddecfibdblaaDoor
open Go.RowKit
set_option linter.unusedVariables false
set_option linter.unusedSimpArgs false

/-- what DfaRule tells -/
def RuleR (D : Dx) (t : ByteArray) (r : Int) : Prop := (∃ q : Nat, RunR D t q ∧ r = D.A q) ∨ (RunR D t (-1) ∧ r = -1)
theorem RunR.bd {D : Dx} {t : ByteArray} {r : Int} (h : RunR D t r) : r = -1 ∨ (DOk D ∧ 0 ≤ r ∧ r < D.rn) := by
  rcases h with ⟨a, b⟩ | ⟨_, rfl⟩
  · have := b.bd a
    by_cases e : r = -1
    · exact .inl e
    · exact .inr ⟨a, by omega, by omega⟩
  · exact .inl rfl
theorem RuleR.unique {D : Dx} {t : ByteArray} {r r' : Int} (h : RuleR D t r) (h' : RuleR D t r') : r = r' := by
  rcases h with ⟨q, a, rfl⟩ | ⟨a, rfl⟩ <;> rcases h' with ⟨q', b, rfl⟩ | ⟨b, rfl⟩
  · have : q = q' := by have := a.unique b; omega
    rw [this]
  · have := a.unique b; omega
  · have := a.unique b; omega
  · rfl
theorem RuleR.congr {D D' : Dx} (e : DEq D D') {t : ByteArray} {r : Int} (h : RuleR D t r) : RuleR D' t r := by
  rcases h with ⟨q, a, rfl⟩ | ⟨a, rfl⟩
  · refine .inl ⟨q, a.congr e, ?_⟩
    rcases a.bd with h1 | ⟨h1, h2, h3⟩
    · omega
    · exact e.2.2.2 q (by rw [h1.2.2.1]; omega)
  · exact .inr ⟨a.congr e, rfl⟩
theorem RuleR.exists (D : Dx) (t : ByteArray) : ∃ r, RuleR D t r := by
  obtain ⟨q, hq⟩ := RunR.exists D t
  rcases hq.bd with rfl | ⟨_, h2, _⟩
  · exact ⟨-1, .inr ⟨hq, rfl⟩⟩
  · exact ⟨D.A q.toNat, .inl ⟨q.toNat, by rw [show ((q.toNat : Nat) : Int) = q by omega]; exact hq, rfl⟩⟩

set_option maxRecDepth 100000 in
set_option maxHeartbeats 4000000 in
theorem specDfaRule_any (D : Dx) (t : ByteArray) (w : World) (h : DIn w D) (hm : DLe D 4194304) (hts : t.size ≤ 4194304) :
    Calls Tryd.prog 12 #[dv D, .string t] w (IsI (RuleR D t) w) := by
  obtain ⟨W0, hW0⟩ : ∃ W0, W0 = w.alloc (.cells #[.slice D.pa D.pn D.pc, .slice D.ra D.rn D.rc, .slice D.aa D.an D.ac] 31) := ⟨_, rfl⟩
  have hb0 : Below w.heap.size w W0 := by rw [hW0]; exact (Below.refl _ _).alloc (Nat.le_refl _) _
  have HX : Hid (∀ V, Below W0.heap.size W0 V → V.cell? ⟨w.heap.size, 0, none⟩ = some (.slice D.pa D.pn D.pc) ∧ V.cell? ⟨w.heap.size, 1, none⟩ = some (.slice D.ra D.rn D.rc) ∧ V.cell? ⟨w.heap.size, 2, none⟩ = some (.slice D.aa D.an D.ac)) := fun V hV => by
    refine ⟨((bcell hV).1 _ _ (by rw [hW0]; simp)).trans ?_, ((bcell hV).1 _ _ (by rw [hW0]; simp)).trans ?_, ((bcell hV).1 _ _ (by rw [hW0]; simp)).trans ?_⟩ <;> (rw [hW0]; simp [go_sem])
  have H1 : Hid (Calls Tryd.prog 8 #[.agg #[.slice D.pa D.pn D.pc, .slice D.ra D.rn D.rc, .slice D.aa D.an D.ac], .string t] W0 (IsI (RunR D t) W0)) := specDfaRun_any D t W0 (h.below hb0) hm hts
  have HI : Hid (∀ V, Below w.heap.size w V → Ip V D.ab D.aoff D.an D.A) := fun V hV => h.a.below hV
  have HB0 : Hid (Below w.heap.size w W0) := hb0
  have hag := h.ag
  rw [dv]
  clear h hm
  go_enter Tryd.func12, Tryd.ntmps12
  go_wp2_with fail
  rw [← hW0]
  clear hW0 hb0
  refine H1.out.mono ?_
  rintro e w1 ⟨r, rfl, hr, hb1⟩
  have HR : Hid (RunR D t r) := hr
  obtain ⟨p0, p1, p2⟩ := HX.out _ hb1
  have HB1 : Hid (Below w.heap.size w w1) := HB0.out.trans (hb1.mono HB0.out.size)
  rcases hr.bd with rfl | ⟨h1, h2, h3⟩
  · clear hr
    go_wp2_with fail
    go_ret
    exact .mk' (.inr ⟨HR.out, rfl⟩) HB1.out
  · obtain ⟨q, rfl⟩ : ∃ q : Nat, r = (q : Int) := ⟨r.toNat, by omega⟩
    have hqa : q < D.an := by rw [h1.2.2.1]; omega
    have hqz : (q : Int) < (D.an : Int) := by omega
    have haa : D.aa = some ⟨D.ab, D.aoff, none⟩ := hag (by omega)
    have c1 := (HI.out _ HB1.out) q hqa
    rw [haa] at p2
    have hq0 : ¬ (q : Int) < 0 := by omega
    have hqe : ((q : Int) == -1) = false := by simp <;> omega
    have HRU : Hid (RuleR D t (D.A q)) := .inl ⟨q, HR.out, rfl⟩
    clear hr h1 h2 h3 haa
    go_wp2_with fail
    go_ret
    exact .mk' HRU.out HB1.out

set_option maxRecDepth 100000 in
set_option maxHeartbeats 4000000 in
theorem implDfaRule_any (D : Dx) (t : ByteArray) (w : World) (ht : TabZ w) (hw0 : 0 < w.heap.size) (h : DIn w D) (hm : DLe D 4194304) (hts : t.size ≤ 4194304) :
    Calls Tryd.prog 13 #[dv D, .string t] w (IsI (RuleR D t) w) := by
  obtain ⟨W0, hW0⟩ : ∃ W0, W0 = w.alloc (.cells #[.slice D.pa D.pn D.pc, .slice D.ra D.rn D.rc, .slice D.aa D.an D.ac] 31) := ⟨_, rfl⟩
  have hb0 : Below w.heap.size w W0 := by rw [hW0]; exact (Below.refl _ _).alloc (Nat.le_refl _) _
  have HX : Hid (∀ V, Below W0.heap.size W0 V → V.cell? ⟨w.heap.size, 0, none⟩ = some (.slice D.pa D.pn D.pc) ∧ V.cell? ⟨w.heap.size, 1, none⟩ = some (.slice D.ra D.rn D.rc) ∧ V.cell? ⟨w.heap.size, 2, none⟩ = some (.slice D.aa D.an D.ac)) := fun V hV => by
    refine ⟨((bcell hV).1 _ _ (by rw [hW0]; simp)).trans ?_, ((bcell hV).1 _ _ (by rw [hW0]; simp)).trans ?_, ((bcell hV).1 _ _ (by rw [hW0]; simp)).trans ?_⟩ <;> (rw [hW0]; simp [go_sem])
  have H1 : Hid (Calls Tryd.prog 10 #[.agg #[.slice D.pa D.pn D.pc, .slice D.ra D.rn D.rc, .slice D.aa D.an D.ac], .string t] W0 (IsI (RunR D t) W0)) := implDfaRun_any D t W0 (ht.below hb0) (by have := hb0.size; omega) (h.below hb0) hm hts
  have HI : Hid (∀ V, Below w.heap.size w V → Ip V D.ab D.aoff D.an D.A) := fun V hV => h.a.below hV
  have HB0 : Hid (Below w.heap.size w W0) := hb0
  have hag := h.ag
  rw [dv]
  clear h hm
  go_enter Tryd.func13, Tryd.ntmps13
  go_wp2_with fail
  rw [← hW0]
  clear hW0 hb0
  refine H1.out.mono ?_
  rintro e w1 ⟨r, rfl, hr, hb1⟩
  have HR : Hid (RunR D t r) := hr
  obtain ⟨p0, p1, p2⟩ := HX.out _ hb1
  have HB1 : Hid (Below w.heap.size w w1) := HB0.out.trans (hb1.mono HB0.out.size)
  rcases hr.bd with rfl | ⟨h1, h2, h3⟩
  · clear hr
    go_wp2_with fail
    go_ret
    exact .mk' (.inr ⟨HR.out, rfl⟩) HB1.out
  · obtain ⟨q, rfl⟩ : ∃ q : Nat, r = (q : Int) := ⟨r.toNat, by omega⟩
    have hqa : q < D.an := by rw [h1.2.2.1]; omega
    have hqz : (q : Int) < (D.an : Int) := by omega
    have haa : D.aa = some ⟨D.ab, D.aoff, none⟩ := hag (by omega)
    have c1 := (HI.out _ HB1.out) q hqa
    rw [haa] at p2
    have hq0 : ¬ (q : Int) < 0 := by omega
    have hqe : ((q : Int) == -1) = false := by simp <;> omega
    have HRU : Hid (RuleR D t (D.A q)) := .inl ⟨q, HR.out, rfl⟩
    clear hr h1 h2 h3 haa
    go_wp2_with fail
    go_ret
    exact .mk' HRU.out HB1.out

set_option maxRecDepth 100000 in
set_option maxHeartbeats 4000000 in
theorem lawDfaRule (D : Dx) (t : ByteArray) (w : World) (ht : TabZ w) (h : DIn w D) (hm : DLe D 9223372036854775807) :
    Calls Tryd.prog 4 #[dv D, .string t] w fun e w' => e = .returned (.bool true) ∧ Below w.heap.size w w' := by
  obtain ⟨W0, hW0⟩ : ∃ W0, W0 = w.alloc (.cells #[.slice D.pa D.pn D.pc, .slice D.ra D.rn D.rc, .slice D.aa D.an D.ac] 26) := ⟨_, rfl⟩
  have hb0 : Below w.heap.size w W0 := by rw [hW0]; exact (Below.refl _ _).alloc (Nat.le_refl _) _
  have HB0 : Hid (Below w.heap.size w W0) := hb0
  have hw0 : 0 < w.heap.size := World.block_lt_of_cell? _ _ (ht 0 (by omega))
  have HT : Hid (∀ V, Below W0.heap.size W0 V → TabZ V ∧ 0 < V.heap.size) := fun V hb => ⟨(ht.below hb0).below hb, by have h1 := hb.size; have h2 := hb0.size; omega⟩
  have HX : Hid (∀ V, Below W0.heap.size W0 V → Bx V w.heap.size D) := fun V hb => Bx.below ⟨by rw [hW0]; simp [go_sem], by rw [hW0]; simp [go_sem], by rw [hW0]; simp [go_sem]⟩ hb
  have HZ : Hid (Calls Tryd.prog 7 #[dv D, .int .i64 1048576] W0 fun e w' => e = .returned (.int .i64 (leftOf 1048576 (cntD D))) ∧ Below W0.heap.size W0 w') := szDfa_any D 1048576 W0 (h.below hb0) hm (by omega) (by omega)
  by_cases hbig : 1048576 < t.size
  · have hbz : (1048576 : Int) < (t.size : Int) := by omega
    clear h hm
    rw [dv]
    go_enter Tryd.func4, Tryd.ntmps4
    go_wp2_with fail
    rw [← hW0]
    go_ret
    exact ⟨rfl, HB0.out⟩
  have hbz : ¬ (1048576 : Int) < (t.size : Int) := by omega
  by_cases hc : 1048576 < cntD D
  · rw [show leftOf 1048576 (cntD D) = -1 from leftOf_neg (by omega)] at HZ
    clear h hm hc
    rw [dv] at HZ
    rw [dv]
    go_enter Tryd.func4, Tryd.ntmps4
    go_wp2_with fail
    rw [← hW0]
    clear hW0
    refine HZ.out.mono ?_
    rintro e w1 ⟨rfl, hb1⟩
    go_wp2_with fail
    go_ret
    exact ⟨rfl, HB0.out.trans (hb1.mono HB0.out.size)⟩
  obtain ⟨z, hz⟩ : ∃ z : Nat, cntD D = z := ⟨_, rfl⟩
  rw [show leftOf 1048576 (cntD D) = 1048576 - (z : Int) by rw [leftOf_pos (by omega), hz]] at HZ
  have hz1 : ¬ 1048576 - (z : Int) < 0 := by omega
  have hl : DLe D 1048576 := DLe.of_cnt (by omega)
  have HA : Hid (∀ V, Below W0.heap.size W0 V → Calls Tryd.prog 9 #[dv D] V (ToD D V)) := fun V hb => toDfa_any D V (h.below (hb0.trans (hb.mono hb0.size))) hl
  obtain ⟨r, HRES⟩ : ∃ r : Int, Hid (RuleR D t r) := RuleR.exists D t
  have H5 : Hid (∀ D1 V, Below W0.heap.size W0 V → DIn V D1 → DEq D D1 → Calls Tryd.prog 12 #[dv D1, .string t] V fun e w' => e = .returned (.int .i64 r) ∧ Below V.heap.size V w') := fun D1 V hb h1 e1 =>
    (specDfaRule_any D1 t V h1 ((hl.of_eq e1).mono (by omega)) (by omega)).mono fun e w' ⟨b, hb, hi, hbl⟩ => ⟨by rw [hb]; exact ret_int ((hi.congr e1.symm).unique HRES.out), hbl⟩
  have H7 : Hid (∀ D1 V, Below W0.heap.size W0 V → DIn V D1 → DEq D D1 → Calls Tryd.prog 13 #[dv D1, .string t] V fun e w' => e = .returned (.int .i64 r) ∧ Below V.heap.size V w') := fun D1 V hb h1 e1 =>
    (implDfaRule_any D1 t V (HT.out V hb).1 (HT.out V hb).2 h1 ((hl.of_eq e1).mono (by omega)) (by omega)).mono fun e w' ⟨b, hb, hi, hbl⟩ => ⟨by rw [hb]; exact ret_int ((hi.congr e1.symm).unique HRES.out), hbl⟩
  have H8S : Hid (∀ D1 D2 V, DIn V D1 → DIn V D2 → DEq D D1 → DEq D D2 → Calls Tryd.prog 11 #[dv D1, dv D2] V fun e w' => e = .returned (.bool true) ∧ Below V.heap.size V w') := fun D1 D2 V h1 h2 e1 e2 =>
    eqDfa_any D1 D2 V h1 h2 ((hl.of_eq e1).mono (by omega)) (e1.symm.trans e2)
  have hoo : (r != r) = false := by simp
  clear h hm hc hz hl HRES hb0 ht
  simp only [dv] at HZ HA H5 H7 H8S
  rw [dv]
  go_enter Tryd.func4, Tryd.ntmps4
  go_wp2_with fail
  rw [← hW0]
  clear hW0
  refine HZ.out.mono ?_
  rintro e w1 ⟨rfl, hb1⟩
  obtain ⟨p0, p1, p2⟩ := HX.out w1 hb1
  clear HZ
  go_wp2_with fail
  refine (HA.out _ hb1).mono ?_
  rintro e w2 ⟨DA, rfl, hinA, heA, hbA⟩
  have hB2 := hb1.trans (hbA.mono hb1.size)
  simp only [dv]
  go_wp2_with fail
  refine (H5.out DA _ hB2 hinA heA).mono ?_
  rintro e w3 ⟨rfl, hb3⟩
  have hB3 := hB2.trans (hb3.mono hB2.size)
  clear p0 p1 p2 hinA heA
  obtain ⟨p0, p1, p2⟩ := HX.out w3 hB3
  go_wp2_with fail
  refine (HA.out _ hB3).mono ?_
  rintro e w4 ⟨D1, rfl, hin1, he1, hb4⟩
  have hB4 := hB3.trans (hb4.mono hB3.size)
  simp only [dv]
  obtain ⟨X0, hX0⟩ : ∃ X0 : Obj, X0 = .cells #[.slice D1.pa D1.pn D1.pc, .slice D1.ra D1.rn D1.rc, .slice D1.aa D1.an D1.ac] 31 := ⟨_, rfl⟩
  have HBX0 : Hid (Below w4.heap.size w4 (w4.alloc X0)) := (Below.refl _ _).alloc (Nat.le_refl _) _
  have HE1 : Hid (DEq D D1) := he1
  have hB5 : Below W0.heap.size W0 (w4.alloc X0) := hB4.trans (HBX0.out.mono hB4.size)
  have HX0 : Hid (∀ V, Below (w4.alloc X0).heap.size (w4.alloc X0) V → Bx V w4.heap.size D1) := fun V hb => Bx.below ⟨by rw [hX0]; simp [go_sem], by rw [hX0]; simp [go_sem], by rw [hX0]; simp [go_sem]⟩ hb
  have HIN2 : Hid (DIn (w4.alloc X0) D1) := hin1.below HBX0.out
  have H7' := H7.out D1 (w4.alloc X0) hB5 HIN2.out HE1.out
  have HH7 : Hid (Calls Tryd.prog 13 #[.agg #[.slice D1.pa D1.pn D1.pc, .slice D1.ra D1.rn D1.rc, .slice D1.aa D1.an D1.ac], .string t] (w4.alloc X0) fun e w' => e = .returned (.int .i64 r) ∧ Below (w4.alloc X0).heap.size (w4.alloc X0) w') := H7'
  obtain ⟨l0, l1, l2⟩ := HX0.out _ (Below.refl _ _)
  clear hin1 he1 H7' p0 p1 p2
  rw [hX0] at l0 l1 l2
  have HHX : Hid (X0 = .cells #[.slice D1.pa D1.pn D1.pc, .slice D1.ra D1.rn D1.rc, .slice D1.aa D1.an D1.ac] 31) := hX0
  clear hX0
  go_wp2_with fail
  clear l0 l1 l2
  rw [← HHX.out]
  clear HHX
  refine HH7.out.mono ?_
  rintro e w6 ⟨rfl, hb6⟩
  have hB8 := hB5.trans (hb6.mono hB5.size)
  obtain ⟨p0, p1, p2⟩ := HX.out w6 hB8
  obtain ⟨l0, l1, l2⟩ := HX0.out w6 hb6
  have hB8d := hB8.drew
  have hb6d := hb6.drew
  have HI6 : Hid (DIn w6.drew D1) := HIN2.out.below hb6d
  go_wp2_with fail
  go_region_held (fun V => (V.cell? ⟨w.heap.size, 0, none⟩ = some (.slice D.pa D.pn D.pc) ∧ V.cell? ⟨w.heap.size, 1, none⟩ = some (.slice D.ra D.rn D.rc) ∧ V.cell? ⟨w.heap.size, 2, none⟩ = some (.slice D.aa D.an D.ac)) ∧
    V.cell? ⟨w4.heap.size, 0, none⟩ = some (.slice D1.pa D1.pn D1.pc) ∧ V.cell? ⟨w4.heap.size, 1, none⟩ = some (.slice D1.ra D1.rn D1.rc) ∧ V.cell? ⟨w4.heap.size, 2, none⟩ = some (.slice D1.aa D1.an D1.ac)) (go_keep)
    (first
      | (go_at_call 11; refine (H8S.out D1 D7 w7 (HI6.out.below hb7) hin7 HE1.out he7).mono ?_; rintro e w8 ⟨rfl, hb8⟩; obtain ⟨r0, r1, r2⟩ := HX.out w8 (hB8d.trans ((hb7.trans (hb8.mono hb7.size)).mono hB8d.size)); obtain ⟨r3, r4, r5⟩ := HX0.out w8 (hb6d.trans ((hb7.trans (hb8.mono hb7.size)).mono hb6d.size)); have hEND : Below W0.heap.size W0 w8 := hB8d.trans ((hb7.trans (hb8.mono hb7.size)).mono hB8d.size))
      | (go_at_call 9; refine (HA.out w6.drew hB8d).mono ?_; rintro e w7 ⟨D7, rfl, hin7, he7, hb7⟩; obtain ⟨s0, s1, s2⟩ := HX.out w7 (hB8d.trans (hb7.mono hB8d.size)); obtain ⟨s3, s4, s5⟩ := HX0.out w7 (hb6d.trans (hb7.mono hb6d.size))))
  all_goals go_wp2_with fail
  all_goals
    go_ret
    exact ⟨rfl, HB0.out.trans (hEND.mono HB0.out.size)⟩
end Go.Proofs.YtolddecfibdblaaDoor

