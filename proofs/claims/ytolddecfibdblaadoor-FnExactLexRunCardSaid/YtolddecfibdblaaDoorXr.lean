/- the walk of the law of LexRun -/
import Derived.Test.YtolddecfibdblaaDoorXp
import Derived.Test.YtolddecfibdblaaDoorXq
import Derived.Test.YtolddecfibdblaaDoorKl
import Derived.Test.YtolddecfibdblaaDoorJn
import Derived.Deep.Cut
namespace Go.Proofs.YtolddecfibdblaaDoor
open Go.RowKit
set_option linter.unusedVariables false
set_option linter.unusedSimpArgs false

theorem tot_eqX {f g : Nat → Nat} : ∀ {n : Nat}, (∀ i, i < n → f i = g i) → tot f n = tot g n
  | 0, _ => rfl
  | n + 1, h => by rw [tot, tot, tot_eqX (n := n) (fun i hi => h i (by omega)), h n (by omega)]
theorem cntD_congrX {D D' : Dx} (e : DEq D D') : cntD D = cntD D' := by
  obtain ⟨⟨e1, f1⟩, ⟨e2, f2⟩, ⟨e3, _⟩⟩ := e
  unfold cntD
  rw [← e1, ← e2, ← e3, tot_eqX (fun i hi => (f1 i hi).1), tot_eqX (fun i hi => (f2 i hi).1)]

theorem own_at {w w' : World} {base e size n : Nat} {v : Value} {xs : List Value} (h : w.ownsRow base e size v n xs) (hb : ∀ k, v.ownBlock = some k → w'.heap[k]? = w.heap[k]?) : w'.ownsRow base e size v n xs := by
  refine ⟨h.1, ?_⟩
  rcases h.2 with h0 | ⟨g, cap, cur, e, h1, h2, r⟩
  · exact .inl h0
  · exact .inr ⟨g, cap, cur, e, h1, (hb g (by rw [e]; rfl)).trans h2, r⟩

set_option maxRecDepth 100000 in
set_option maxHeartbeats 4000000 in
theorem lawLexRun (D : Dx) (t : ByteArray) (w : World) (ht : TabZ w) (h : DIn w D) (hm : DLe D 9223372036854775807) :
    Calls Tryd.prog 6 #[dv D, .string t] w fun e w' => e = .returned (.bool true) ∧ Below w.heap.size w w' := by
  obtain ⟨W0, hW0⟩ : ∃ W0, W0 = w.alloc (.cells #[.slice D.pa D.pn D.pc, .slice D.ra D.rn D.rc, .slice D.aa D.an D.ac] 26) := ⟨_, rfl⟩
  have hb0 : Below w.heap.size w W0 := by rw [hW0]; exact (Below.refl _ _).alloc (Nat.le_refl _) _
  have HB0 : Hid (Below w.heap.size w W0) := hb0
  have hw0 : 0 < w.heap.size := World.block_lt_of_cell? _ _ (ht 0 (by omega))
  have HT : Hid (∀ V, Below W0.heap.size W0 V → TabZ V ∧ 0 < V.heap.size) := fun V hb => ⟨(ht.below hb0).below hb, by have h1 := hb.size; have h2 := hb0.size; omega⟩
  have HX : Hid (∀ V, Below W0.heap.size W0 V → Bx V w.heap.size D) := fun V hb => Bx.below ⟨by rw [hW0]; simp [go_sem], by rw [hW0]; simp [go_sem], by rw [hW0]; simp [go_sem]⟩ hb
  have HZ : Hid (Calls Tryd.prog 7 #[dv D, .int .i64 1048576] W0 fun e w' => e = .returned (.int .i64 (leftOf 1048576 (cntD D))) ∧ Below W0.heap.size W0 w') := szDfa_any D 1048576 W0 (h.below hb0) hm (by omega) (by omega)
  by_cases hbig : 1048576 < t.size
  · have hbz : (1048576 : Int) < (t.size : Int) := by omega
    clear h hm
    rw [dv]
    go_enter Tryd.func6, Tryd.ntmps6
    go_wp2_with fail
    rw [← hW0]
    go_ret
    exact ⟨rfl, HB0.out⟩
  have hbz : ¬ (1048576 : Int) < (t.size : Int) := by omega
  by_cases hc : 1048576 < cntD D
  · rw [show leftOf 1048576 (cntD D) = -1 from leftOf_neg (by omega)] at HZ
    clear h hm hc
    rw [dv] at HZ
    rw [dv]
    go_enter Tryd.func6, Tryd.ntmps6
    go_wp2_with fail
    rw [← hW0]
    clear hW0
    refine HZ.out.mono ?_
    rintro e w1 ⟨rfl, hb1⟩
    go_wp2_with fail
    go_ret
    exact ⟨rfl, HB0.out.trans (hb1.mono HB0.out.size)⟩
  obtain ⟨z, hz⟩ : ∃ z : Nat, cntD D = z := ⟨_, rfl⟩
  rw [show leftOf 1048576 (cntD D) = 1048576 - (z : Int) by rw [leftOf_pos (by omega), hz]] at HZ
  have hz1 : ¬ 1048576 - (z : Int) < 0 := by omega
  have hl : DLe D 1048576 := DLe.of_cnt (by omega)
  have HCN : Hid (∀ D1, DEq D D1 → cntD D1 ≤ 1048576) := fun D1 e1 => by
    rw [← cntD_congrX e1]; omega
  have HA : Hid (∀ V, Below W0.heap.size W0 V → Calls Tryd.prog 9 #[dv D] V (ToDO D V)) := fun V hb => toDfaO_any D V (h.below (hb0.trans (hb.mono hb0.size))) hl
  have H5 : Hid (∀ D1 V, Below W0.heap.size W0 V → DIn V D1 → DEq D D1 → Calls Tryd.prog 16 #[dv D1, .string t] V (TokRes (LexRunR D t) V)) := fun D1 V hb h1 e1 =>
    (specLexRun_any D1 t V h1 ((hl.of_eq e1).mono (by omega)) (by omega)).mono fun e w' ⟨v, L, c, h1, h2, h3, h4⟩ => ⟨v, L, c, h1, h2.congr e1.symm, h3, h4⟩
  have H7 : Hid (∀ D1 V, Below W0.heap.size W0 V → DIn V D1 → DEq D D1 → Calls Tryd.prog 17 #[dv D1, .string t] V (TokRes (LexRunR D t) V)) := fun D1 V hb h1 e1 =>
    (implLexRun_any D1 t V (HT.out V hb).1 (HT.out V hb).2 h1 ((hl.of_eq e1).mono (by omega)) (by omega)).mono fun e w' ⟨v, L, c, h1, h2, h3, h4⟩ => ⟨v, L, c, h1, h2.congr e1.symm, h3, h4⟩
  have H8S : Hid (∀ D1 D2 V, DIn V D1 → DIn V D2 → DEq D D1 → DEq D D2 → Calls Tryd.prog 11 #[dv D1, dv D2] V fun e w' => e = .returned (.bool true) ∧ Below V.heap.size V w') := fun D1 D2 V h1 h2 e1 e2 =>
    eqDfa_any D1 D2 V h1 h2 ((hl.of_eq e1).mono (by omega)) (e1.symm.trans e2)
  have HMK : Hid (∀ D1 lo V0 V, OwnD lo V0 D1 → Below V0.heap.size V0 V → DEq D D1 → Calls Tryd.prog 19 #[dv D1, .int .i64 1] V fun e w' => (∃ k : Nat, e = .returned (.int .i64 k)) ∧ Tn lo V0.heap.size V w') := fun D1 lo V0 V ho hV e1 => markDfa_any lo D1 V0 V ho hV (HCN.out D1 e1)
  have HUN : Hid (∀ L c L' c', LexRunR D t L c → LexRunR D t L' c' → L = L' ∧ c = c') := fun L c L' c' h h' => h.unique h'
  have HLN : Hid (∀ L c, LexRunR D t L c → L.length ≤ 200) := fun L c h => by
    rcases h with ⟨h1, h2, h3⟩ | ⟨_, rfl, _⟩
    · have := h3.1.bd (lexV_finds h1 t) (Nat.zero_le _); omega
    · simp
  clear h hm hc hz hl hb0 ht hw0
  simp only [dv] at HZ HA H5 H7 H8S HMK
  rw [dv]
  go_enter Tryd.func6, Tryd.ntmps6
  go_wp2_with fail
  rw [← hW0]
  clear hW0
  refine HZ.out.mono ?_
  rintro e w1 ⟨rfl, hb1⟩
  obtain ⟨p0, p1, p2⟩ := HX.out w1 hb1
  clear HZ
  go_wp2_with fail
  refine (HA.out _ hb1).mono ?_
  rintro e w2 ⟨DA, rfl, hinA, heA, _, hbA⟩
  have hB2 := hb1.trans (hbA.mono hb1.size)
  simp only [dv]
  go_wp2_with fail
  refine (H5.out DA _ hB2 hinA heA).mono ?_
  rintro e w3 ⟨vw, L, cw, rfl, hrw, hlw, hb3⟩
  have hB3 := hB2.trans (hb3.mono hB2.size)
  have HRW : Hid (LexRunR D t L cw) := hrw
  have hL200 : L.length ≤ 200 := HLN.out L cw hrw
  have HLW : Hid (w3.ownsRow w2.heap.size 59 3 vw L.length (cellsT L)) := hlw
  have HLL : Hid (∀ k, vw.ownBlock = some k → k < w3.heap.size) := fun k e => (hlw.lt k e).2
  clear p0 p1 p2 hinA heA hlw hrw
  obtain ⟨p0, p1, p2⟩ := HX.out w3 hB3
  go_wp2_with fail
  refine (HA.out _ hB3).mono ?_
  rintro e w4 ⟨D1, rfl, hin1, he1, hown1, hb4⟩
  have hB4 := hB3.trans (hb4.mono hB3.size)
  have HOW : Hid (OwnD w3.heap.size w4 D1) := hown1
  have HS34 : Hid (w3.heap.size ≤ w4.heap.size) := hb4.size
  have HLW4 : Hid (w4.ownsRow w2.heap.size 59 3 vw L.length (cellsT L)) := own_belowT HLW.out hb4
  simp only [dv]
  obtain ⟨X0, hX0⟩ : ∃ X0 : Obj, X0 = .cells #[.slice D1.pa D1.pn D1.pc, .slice D1.ra D1.rn D1.rc, .slice D1.aa D1.an D1.ac] 31 := ⟨_, rfl⟩
  have HBX0 : Hid (Below w4.heap.size w4 (w4.alloc X0)) := (Below.refl _ _).alloc (Nat.le_refl _) _
  have HE1 : Hid (DEq D D1) := he1
  have hB5 : Below W0.heap.size W0 (w4.alloc X0) := hB4.trans (HBX0.out.mono hB4.size)
  have HX0 : Hid (∀ V, Below (w4.alloc X0).heap.size (w4.alloc X0) V → Bx V w4.heap.size D1) := fun V hb => Bx.below ⟨by rw [hX0]; simp [go_sem], by rw [hX0]; simp [go_sem], by rw [hX0]; simp [go_sem]⟩ hb
  have HIN2 : Hid (DIn (w4.alloc X0) D1) := hin1.below HBX0.out
  have H7' := H7.out D1 (w4.alloc X0) hB5 HIN2.out HE1.out
  have HH7 : Hid (Calls Tryd.prog 17 #[.agg #[.slice D1.pa D1.pn D1.pc, .slice D1.ra D1.rn D1.rc, .slice D1.aa D1.an D1.ac], .string t] (w4.alloc X0) (TokRes (LexRunR D t) (w4.alloc X0))) := H7'
  obtain ⟨l0, l1, l2⟩ := HX0.out _ (Below.refl _ _)
  clear hin1 he1 H7' p0 p1 p2 hown1
  rw [hX0] at l0 l1 l2
  have HHX : Hid (X0 = .cells #[.slice D1.pa D1.pn D1.pc, .slice D1.ra D1.rn D1.rc, .slice D1.aa D1.an D1.ac] 31) := hX0
  clear hX0
  go_wp2_with fail
  clear l0 l1 l2
  rw [← HHX.out]
  clear HHX
  refine HH7.out.mono ?_
  rintro e w6 ⟨vg, L', cg, rfl, hrg, hlg, hb6⟩
  obtain ⟨rfl, rfl⟩ := HUN.out _ _ _ _ hrg HRW.out
  have hB6 := hB5.trans (hb6.mono hB5.size)
  have HBX6 : Hid (Below (w4.alloc X0).heap.size (w4.alloc X0) w6) := hb6
  have HLG : Hid (w6.ownsRow (w4.alloc X0).heap.size 59 3 vg L'.length (cellsT L')) := hlg
  have HGG : Hid (∀ k, vg.ownBlock = some k → w4.heap.size < k ∧ k < w6.heap.size) := fun k e => ⟨by have := (hlg.lt k e).1; simp at this; omega, (hlg.lt k e).2⟩
  have HLW6 : Hid (w6.ownsRow w2.heap.size 59 3 vw L'.length (cellsT L')) := own_belowT (own_belowT HLW4.out HBX0.out) hb6
  have HEQ6 := eqT_any w6 HLG.out HLW6.out (by omega)
  have hcc : ((cg : Int) != (cg : Int)) = false := by simp
  clear hlg hb6 hrg
  go_wp2_with fail
  refine HEQ6.mono ?_
  rintro e w7 ⟨rfl, hb7⟩
  have hB8 := hB6.trans (hb7.mono hB6.size)
  have hb67 : Below (w4.alloc X0).heap.size (w4.alloc X0) w7 := HBX6.out.trans (hb7.mono HBX6.out.size)
  have HB67 : Hid (Below w6.heap.size w6 w7) := hb7
  obtain ⟨p0, p1, p2⟩ := HX.out w7 hB8
  obtain ⟨l0, l1, l2⟩ := HX0.out w7 hb67
  have hB8d := hB8.drew
  have hb6d := hb67.drew
  have HI6 : Hid (DIn w7.drew D1) := HIN2.out.below hb6d
  clear HEQ6 hb7
  go_wp2_with fail
  go_cut [52] from 48 to 52 (fun v wc => v = .bool false ∧ Below w7.heap.size w7 wc)
  case first =>
    have HD7 : Hid (Below w7.heap.size w7 w7.drew) := (Below.refl _ _).drew
    go_region_held (fun V => (V.cell? ⟨w.heap.size, 0, none⟩ = some (.slice D.pa D.pn D.pc) ∧ V.cell? ⟨w.heap.size, 1, none⟩ = some (.slice D.ra D.rn D.rc) ∧ V.cell? ⟨w.heap.size, 2, none⟩ = some (.slice D.aa D.an D.ac)) ∧
      V.cell? ⟨w4.heap.size, 0, none⟩ = some (.slice D1.pa D1.pn D1.pc) ∧ V.cell? ⟨w4.heap.size, 1, none⟩ = some (.slice D1.ra D1.rn D1.rc) ∧ V.cell? ⟨w4.heap.size, 2, none⟩ = some (.slice D1.aa D1.an D1.ac)) (go_keep)
      (first
        | (go_at_call 11; refine (H8S.out D1 D7 wd (HI6.out.below hbd) hind HE1.out hed).mono ?_; rintro e we ⟨rfl, hbe⟩; obtain ⟨r0, r1, r2⟩ := HX.out we (hB8d.trans ((hbd.trans (hbe.mono hbd.size)).mono hB8d.size)); obtain ⟨r3, r4, r5⟩ := HX0.out we (hb6d.trans ((hbd.trans (hbe.mono hbd.size)).mono hb6d.size)); have hEND : Below w7.heap.size w7 we := HD7.out.trans ((hbd.trans (hbe.mono hbd.size)).mono HD7.out.size))
        | (go_at_call 9; refine (HA.out w7.drew hB8d).mono ?_; rintro e wd ⟨D7, rfl, hind, hed, _, hbd⟩; obtain ⟨s0, s1, s2⟩ := HX.out wd (hB8d.trans (hbd.mono hB8d.size)); obtain ⟨s3, s4, s5⟩ := HX0.out wd (hb6d.trans (hbd.mono hb6d.size))))
    all_goals go_wp2_with fail
    all_goals
      go_meet
      exact ⟨rfl, hEND⟩
  case rest =>
    obtain ⟨rfl, hbc⟩ := hcut
    rename World => w8
    clear p0 p1 p2 l0 l1 l2 hB8d hb6d HI6
    have HB8 : Hid (Below W0.heap.size W0 w8) := hB8.trans (hbc.mono hB8.size)
    have HB68 : Hid (Below (w4.alloc X0).heap.size (w4.alloc X0) w8) := hb67.trans (hbc.mono hb67.size)
    have HB48 : Hid (Below w4.heap.size w4 w8) := HBX0.out.trans (HB68.out.mono HBX0.out.size)
    have HS8 : Hid (w6.heap.size ≤ w8.heap.size ∧ w4.heap.size ≤ w8.heap.size) := ⟨Nat.le_trans HB67.out.size hbc.size, HB48.out.size⟩
    obtain ⟨p0, p1, p2⟩ := HX.out w8 HB8.out
    obtain ⟨l0, l1, l2⟩ := HX0.out w8 HB68.out
    have HLG8 : Hid (w8.ownsRow (w4.alloc X0).heap.size 59 3 vg L'.length (cellsT L')) := own_belowT (own_belowT HLG.out HB67.out) hbc
    have HLW8 : Hid (w8.ownsRow w2.heap.size 59 3 vw L'.length (cellsT L')) := own_belowT (own_belowT HLW6.out HB67.out) hbc
    have HMK8 : Hid (Calls Tryd.prog 19 #[.agg #[.slice D1.pa D1.pn D1.pc, .slice D1.ra D1.rn D1.rc, .slice D1.aa D1.an D1.ac], .int .i64 1] w8 fun e w' => (∃ k : Nat, e = .returned (.int .i64 k)) ∧ Tn w3.heap.size w4.heap.size w8 w') := HMK.out D1 w3.heap.size w4 w8 HOW.out HB48.out HE1.out
    clear hbc hb67 hB8
    go_wp2_with fail
    refine HMK8.out.mono ?_
    rintro e w9 ⟨⟨k, rfl⟩, hT⟩
    have HLG9 : Hid (w9.ownsRow (w4.alloc X0).heap.size 59 3 vg L'.length (cellsT L')) := own_at HLG8.out (fun k e => hT.block k (by have := HGG.out k e; have := HS8.out; omega) (by have := HGG.out k e; omega))
    have HLW9 : Hid (w9.ownsRow w2.heap.size 59 3 vw L'.length (cellsT L')) := own_at HLW8.out (fun k e => hT.block k (by have := HLL.out k e; have := HS34.out; have := HS8.out; omega) (by have := HLL.out k e; omega))
    have HB9 : Hid (Below W0.heap.size W0 w9) := HB8.out.trans ((hT.below (by have := HS34.out; have := HS8.out; omega)).mono hB3.size)
    have HS9 : Hid (w8.heap.size ≤ w9.heap.size) := hT.size
    have HEQ9 : Hid (Calls Tryd.prog 18 #[vg, vw] w9 fun e w' => e = .returned (.bool true) ∧ Below w9.heap.size w9 w') := eqT_any w9 HLG9.out HLW9.out (by omega)
    clear p0 p1 p2 l0 l1 l2 hT
    have hk0 : ¬ ((k : Int) < 0) := by omega
    go_wp2_with fail
    refine HEQ9.out.mono ?_
    rintro e w10 ⟨rfl, hb10⟩
    have HLG10 : Hid (w10.ownsRow (w4.alloc X0).heap.size 59 3 vg L'.length (cellsT L')) := own_belowT HLG9.out hb10
    have HLW10 : Hid (w10.ownsRow w2.heap.size 59 3 vw L'.length (cellsT L')) := own_belowT HLW9.out hb10
    have HB10 : Hid (Below W0.heap.size W0 w10) := HB9.out.trans (hb10.mono HB9.out.size)
    have HS10 : Hid (w9.heap.size ≤ w10.heap.size) := hb10.size
    have HM10 : Hid (Calls Tryd.prog 20 #[vg, .int .i64 1] w10 fun e w' => e = .returned (.int .i64 (1 + 3 * (L'.length : Int))) ∧ w'.ownsRow (w4.alloc X0).heap.size 59 3 vg L'.length (markL 1 (L'.length * 3)) ∧ w10.grownBy w' vg.ownBlock) := markT_any _ L'.length vg _ 1 w10 HLG10.out (by omega) (by omega) (by omega)
    clear hb10
    go_wp2_with fail
    refine HM10.out.mono ?_
    rintro e w11 ⟨rfl, hbl, hfr⟩
    obtain ⟨ym, hym⟩ : ∃ ym : Int, ym = 1 + 3 * (L'.length : Int) := ⟨_, rfl⟩
    have hq0 : ¬ ym < 0 := by omega
    have hyy : (ym != ym) = false := by simp
    have HG11 : Hid (w11.ownsRow (w4.alloc X0).heap.size 59 3 vg L'.length (markL 1 (L'.length * 3))) := hbl
    have HLW11 : Hid (w11.ownsRow w2.heap.size 59 3 vw L'.length (cellsT L')) := own_at HLW10.out (fun k e => hfr.block k (by have := (HLW10.out.lt k e).2; omega) (fun e2 => by have := HGG.out k e2.symm; have := HLL.out k e; have := HS34.out; omega))
    have HB11 : Hid (Below W0.heap.size W0 w11) := HB10.out.grown hfr (by have := HB10.out.size; omega) (fun j hj => by have := HGG.out j hj; have := hB4.size; omega)
    have HHE : Hid (∀ V, Below w11.heap.size w11 V → Calls Tryd.prog 21 #[vg, .int .i64 1] V fun e w' => e = .returned (.int .i64 ym) ∧ Below V.heap.size V w') := fun V hV => (heldT_any _ L'.length vg 1 V (own_belowT HG11.out hV) (by omega) (by omega) (by omega)).mono fun e w' ⟨h1, h2⟩ => ⟨by rw [h1, hym], by rw [h2]; exact Below.refl _ _⟩
    have HH11 := HHE.out w11 (Below.refl _ _)
    rw [← hym]
    clear hbl hfr hym
    go_wp2_with fail
    refine HH11.mono ?_
    rintro e w12 ⟨rfl, hb12⟩
    have HB12 : Hid (Below W0.heap.size W0 w12) := HB11.out.trans (hb12.mono HB11.out.size)
    have HB1112 : Hid (Below w11.heap.size w11 w12) := hb12
    obtain ⟨p0, p1, p2⟩ := HX.out w12 HB12.out
    have HA12 := HA.out _ HB12.out
    clear hb12 HH11
    go_wp2_with fail
    refine HA12.mono ?_
    rintro e w13 ⟨D2, rfl, hin2, he2, _, hb13⟩
    have HB13 : Hid (Below W0.heap.size W0 w13) := HB12.out.trans (hb13.mono HB12.out.size)
    have HB1113 : Hid (Below w11.heap.size w11 w13) := HB1112.out.trans (hb13.mono HB1112.out.size)
    have HH13 := H7.out D2 w13 HB13.out hin2 he2
    simp only [dv]
    clear p0 p1 p2 hb13 HA12 hin2 he2
    go_wp2_with fail
    refine HH13.mono ?_
    rintro e w14 ⟨vh, L2, ch, rfl, hrh, hlh, hb14⟩
    obtain ⟨rfl, rfl⟩ := HUN.out _ _ _ _ hrh HRW.out
    have HB14 : Hid (Below W0.heap.size W0 w14) := HB13.out.trans (hb14.mono HB13.out.size)
    have HB1114 : Hid (Below w11.heap.size w11 w14) := HB1113.out.trans (hb14.mono HB1113.out.size)
    have HEQ14 := eqT_any w14 hlh (own_belowT HLW11.out HB1114.out) (by omega)
    clear hlh hb14 HH13 hrh
    go_wp2_with fail
    refine HEQ14.mono ?_
    rintro e w15 ⟨rfl, hb15⟩
    have HB15 : Hid (Below W0.heap.size W0 w15) := HB14.out.trans (hb15.mono HB14.out.size)
    have HH15 := HHE.out w15 (HB1114.out.trans (hb15.mono HB1114.out.size))
    clear hb15 HEQ14
    go_wp2_with fail
    refine HH15.mono ?_
    rintro e w16 ⟨rfl, hb16⟩
    have HB16 : Hid (Below W0.heap.size W0 w16) := HB15.out.trans (hb16.mono HB15.out.size)
    clear hb16 HH15
    go_wp2_with fail
    go_ret
    exact ⟨rfl, HB0.out.trans (HB16.out.mono HB0.out.size)⟩
end Go.Proofs.YtolddecfibdblaaDoor

