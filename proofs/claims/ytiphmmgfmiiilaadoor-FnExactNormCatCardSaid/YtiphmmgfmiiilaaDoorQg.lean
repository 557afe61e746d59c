/- The walk of the law of NormCat. -/
import Derived.Test.YtiphmmgfmiiilaaDoorQf
import Derived.Test.YtiphmmgfmiiilaaDoorNo
import Derived.Deep.CutRange
import Derived.OrdersHeld
namespace Go.Proofs.YtiphmmgfmiiilaaDoor
open Go.RowKit Go.Shelf
set_option linter.unusedVariables false
set_option linter.unusedSimpArgs false

/-- a new box holds that Rex -/
def BoxRes (T : Sh) (base : World) (s : Value) (wc : World) : Prop := ∃ (bx : Nat) (M0 : Mx) (s1 : Option Addr) (s2 : Nat) (s3 : Option Addr) (s4 : Nat), s = .pointer (some ⟨bx, 0, none⟩) ∧ vx T M0 = .agg #[.int .i64 T.kind, .slice s1 T.n s2, .slice s3 T.m s4] ∧ (wc.cell? ⟨bx, 0, none⟩ = some (.int .i64 T.kind) ∧ wc.cell? ⟨bx, 1, none⟩ = some (.slice s1 T.n s2) ∧ wc.cell? ⟨bx, 2, none⟩ = some (.slice s3 T.m s4)) ∧ In AnyB wc T M0 ∧ base.heap.size ≤ bx ∧ Below base.heap.size base wc
theorem BoxRes.new {T : Sh} {base w3 : World} {lo : Nat} {M0 : Mx} {s1 s3 : Option Addr} {s2 s4 : Nat} (ho : Own lo w3 T M0) (hb : Below base.heap.size base w3) (hv : vx T M0 = .agg #[.int .i64 T.kind, .slice s1 T.n s2, .slice s3 T.m s4]) : BoxRes T base (.pointer (some ⟨w3.heap.size, 0, none⟩)) (w3.alloc (.cells #[.int .i64 T.kind, .slice s1 T.n s2, .slice s3 T.m s4] 30)) :=
  ⟨w3.heap.size, M0, s1, s2, s3, s4, rfl, hv, ⟨by simp [go_sem], by simp [go_sem], by simp [go_sem]⟩, ho.any.below (below_new _ _), hb.size, hb.trans ((below_new _ _).mono hb.size)⟩
theorem BoxRes.old {T : Sh} {base w3 : World} {lo bx : Nat} {M0 : Mx} {s1 s3 : Option Addr} {s2 s4 : Nat} (ho : Own lo w3 T M0) (hb : Below base.heap.size base w3) (hr : Rb w3 bx) (h1 : base.heap.size ≤ bx) (h2 : bx < lo) (hv : vx T M0 = .agg #[.int .i64 T.kind, .slice s1 T.n s2, .slice s3 T.m s4]) : BoxRes T base (.pointer (some ⟨bx, 0, none⟩)) (((w3.setCell ⟨bx, 0, none⟩ (.int .i64 T.kind)).setCell ⟨bx, 1, none⟩ (.slice s1 T.n s2)).setCell ⟨bx, 2, none⟩ (.slice s3 T.m s4)) := by
  have hset : (((w3.setCell ⟨bx, 0, none⟩ (.int .i64 T.kind)).setCell ⟨bx, 1, none⟩ (.slice s1 T.n s2)).setCell ⟨bx, 2, none⟩ (.slice s3 T.m s4)).heap[bx]? = some (.cells #[.int .i64 T.kind, .slice s1 T.n s2, .slice s3 T.m s4] 30 (0, 0)) := by
    obtain ⟨x, y, z, hbx⟩ := hr
    exact Rb.set3 ⟨x, y, z, hbx⟩ _ _ _
  exact ⟨bx, M0, s1, s2, s3, s4, rfl, hv, ⟨by simp [World.cell?, hset], by simp [World.cell?, hset], by simp [World.cell?, hset]⟩, (own3 h2 _ _ _ ho).any, h1, ((hb.setCell h1 _).setCell h1 _).setCell h1 _⟩
/-- what toRex tells, from a world on -/
def ToR (S : Sh) (w V : World) (e : Ending) (w' : World) : Prop := ∃ M1, e = .returned (vx S M1) ∧ In (Soft w') w' S M1 ∧ Below V.heap.size V w' ∧ Below w.heap.size w w'
theorem softb {V V' : World} {S : Sh} {M : Mx} (h : In (Soft V) V S M) (hb : Below V.heap.size V V') : In (Soft V') V' S M := (h.below hb).mono (fun k hk => hk.below hb)
theorem rbn {V w' : World} (hb : Below (V.alloc (.cells #[.int .i64 0, .slice none 0 0, .slice none 0 0] 30)).heap.size (V.alloc (.cells #[.int .i64 0, .slice none 0 0, .slice none 0 0] 30)) w') : Rb w' V.heap.size := (Rb.new V _ _ _).of_block (hb.block _ (by simp))
theorem rbd {V w' : World} (hb : Below (V.alloc (.cells #[.int .i64 0, .slice none 0 0, .slice none 0 0] 30)).drew.heap.size (V.alloc (.cells #[.int .i64 0, .slice none 0 0, .slice none 0 0] 30)).drew w') : Rb w' V.heap.size := (Rb.new V _ _ _).of_block (hb.block _ (lt_one _ _))
theorem below_al {w V : World} (h : Below w.heap.size w V) (o : Obj) : Below w.heap.size w (V.alloc o) := h.alloc h.size o
set_option maxRecDepth 100000 in
set_option maxHeartbeats 2000000 in
theorem markRex_k (lo hi : Nat) (S : Sh) (M : Mx) (k0 : Int) (hk0 : 0 ≤ k0) (hk9 : k0 ≤ 10000000) (w : World) (h : In (Mine lo hi w) w S M) (hcnt : cnt S ≤ 1048576) :
    Calls Tryd.prog 9 #[vx S M, .int .i64 k0] w fun e w' => e = .returned (.int .i64 (k0 + (mk S : Nat))) ∧ Marks lo hi w w' := by
  have hmk := mk_le S
  have hmn := mk_n S
  have H41 : Hid (∀ (k1 : Int) w1, Marks lo hi w w1 → 0 ≤ k1 → k1 + (mk S - 2 * S.n : Nat) ≤ 100000000 → Calls Tryd.prog 24 #[M.kv, .int .i64 k1] w1 fun e w' => e = .returned (.int .i64 (k1 + (mk S - 2 * S.n : Nat))) ∧ Marks lo hi w1 w') := fun k1 w1 hm h0 h1 => markRexS_any lo hi w S M k1 w1 h hcnt hm h0 h1
  obtain ⟨kind, n, L, H, m, K, rfl, _⟩ := Sh.cases S
  obtain ⟨sv, kv, Mk, rfl⟩ := Mx.cases M
  obtain ⟨a, b, off, cap, a', b', off', cap', e1, hn, hs, hl, e2, hm, hl', hk⟩ := h
  obtain rfl : sv = _ := e1
  obtain rfl : kv = _ := e2
  rw [show (Sh.mk kind n L H m K).n = n from rfl] at H41 hmn
  obtain ⟨t, ht⟩ : ∃ t : Nat, mk (Sh.mk kind n L H m K) = t := ⟨_, rfl⟩
  rw [ht] at H41 hmn hmk ⊢
  simp only [vx, Sh.mk_kind, Mx.mk_sv, Mx.mk_kv] at H41 ⊢
  have hn20 : n ≤ 4194304 := by rw [cnt_mk] at hcnt; omega
  have H40 : Hid (∀ w1, Marks lo hi w w1 → Calls Tryd.prog 23 #[.slice a n cap, .int .i64 k0] w1 fun e w' => e = .returned (.int .i64 (k0 + 2 * n)) ∧ Marks lo hi w1 w') := fun w1 hm1 =>
    markS_any lo hi a b off cap n k0 w1 (fun h => ⟨(hn h).1, (hn h).2.1, (hn h).2.2.1⟩) (fun j hj => by
      obtain ⟨q1, q2⟩ := num_sp hs (fun h => (hn h).2) j hj
      exact ⟨q1.marks hm1, q2.marks hm1⟩) (by omega) (by omega) hn20
  have hb0 : Below w.heap.size w (w.alloc (.cells #[.int .i64 kind, .slice a n cap, .slice a' m cap'] 30)) := (Below.refl _ _).alloc (Nat.le_refl _) _
  have m0 : Marks lo hi w (w.alloc (.cells #[.int .i64 kind, .slice a n cap, .slice a' m cap'] 30)) := Marks.below hb0
  have c2 : (w.alloc (.cells #[.int .i64 kind, .slice a n cap, .slice a' m cap'] 30)).cell? ⟨w.heap.size, 2, none⟩ = some (.slice a' m cap') := by simp [go_sem]
  clear hs hn hm hk hl hl' ht
  go_enter Tryd.func9, Tryd.ntmps9
  go_wp2_with fail
  refine (H40.out _ m0).mono ?_
  rintro e w2 ⟨rfl, hm2⟩
  have d2 := hm2.sl _ _ _ _ c2
  have m2 := m0.trans hm2
  go_wp2_with fail
  refine (H41.out (k0 + 2 * (n : Int)) w2 m2 (by omega) (by omega)).mono ?_
  rintro e w3 ⟨rfl, hm3⟩
  go_wp2_with fail
  go_ret
  refine ⟨ret_int ?_, m2.trans hm3⟩
  omega

set_option maxRecDepth 100000 in
set_option maxHeartbeats 16000000 in
theorem lawNormCat (A C : Sh) (M N : Mx) (w : World) (t : TypeId) (ea : Addr) (hE : Err w t ea) (hA : In AnyB w A M) (hC : In AnyB w C N) :
    Calls Tryd.prog 3 #[vx A M, vx C N] w fun e w' => e = .returned (.bool true) ∧ Below w.heap.size w w' := by
  obtain ⟨a, c, a', c', hvA⟩ := hA.value'
  obtain ⟨b, d, b', d', hvC⟩ := hC.value'
  obtain ⟨W0, hW0⟩ : ∃ W0, W0 = (w.alloc (.cells #[.int .i64 A.kind, .slice a A.n c, .slice a' A.m c'] 25)).alloc (.cells #[.int .i64 C.kind, .slice b C.n d, .slice b' C.m d'] 25) := ⟨_, rfl⟩
  have hb0 : Below w.heap.size w W0 := by rw [hW0]; exact below_two _ _ _
  have hs0 : W0.heap.size = w.heap.size + 2 := by rw [hW0]; simp
  have HX : Hid (∀ V, Below W0.heap.size W0 V → (V.cell? ⟨w.heap.size, 0, none⟩ = some (.int .i64 A.kind) ∧ V.cell? ⟨w.heap.size, 1, none⟩ = some (.slice a A.n c) ∧ V.cell? ⟨w.heap.size, 2, none⟩ = some (.slice a' A.m c')) ∧ (V.cell? ⟨w.heap.size + 1, 0, none⟩ = some (.int .i64 C.kind) ∧ V.cell? ⟨w.heap.size + 1, 1, none⟩ = some (.slice b C.n d) ∧ V.cell? ⟨w.heap.size + 1, 2, none⟩ = some (.slice b' C.m d'))) := fun V hb => by
    have k : ∀ bb o v, W0.cell? ⟨bb, o, none⟩ = some v → V.cell? ⟨bb, o, none⟩ = some v := fun bb o v h => (hb.cell (p := ⟨bb, o, none⟩) (World.block_lt_of_cell? _ _ h)).trans h
    refine ⟨⟨k _ _ _ ?_, k _ _ _ ?_, k _ _ _ ?_⟩, ⟨k _ _ _ ?_, k _ _ _ ?_, k _ _ _ ?_⟩⟩ <;> (rw [hW0]; simp [go_sem])
  have HZA : Hid (∀ V, Below w.heap.size w V → Calls Tryd.prog 4 #[.agg #[.int .i64 A.kind, .slice a A.n c, .slice a' A.m c'], .int .i64 1048576] V fun e w' => e = .returned (.int .i64 (leftOf 1048576 (cnt A))) ∧ Below V.heap.size V w') := fun V hb => by
    have h := szRex_any A M 1048576 V (hA.below hb) (by omega) (by omega)
    rwa [hvA] at h
  have HZC : Hid (∀ V left, 0 ≤ left → left ≤ 1048576 → Below w.heap.size w V → Calls Tryd.prog 4 #[.agg #[.int .i64 C.kind, .slice b C.n d, .slice b' C.m d'], .int .i64 left] V fun e w' => e = .returned (.int .i64 (leftOf left (cnt C))) ∧ Below V.heap.size V w') := fun V left h0 h1 hb => by
    have h := szRex_any C N left V (hC.below hb) h0 h1
    rwa [hvC] at h
  have HBW0 : Hid (Below w.heap.size w W0) := hb0
  by_cases hcA : 1048576 < cnt A
  · rw [leftOf_lt' hcA] at HZA
    rw [hvA, hvC]
    clear hvA hvC hA hC hb0
    go_enter Tryd.func3, Tryd.ntmps3
    go_wp2_with fail
    rw [← hW0]
    clear hW0
    refine (HZA.out _ HBW0.out).mono ?_
    rintro e w1 ⟨rfl, hb1⟩
    go_wp2_with fail
    go_ret
    exact ⟨rfl, HBW0.out.trans (hb1.mono HBW0.out.size)⟩
  · rw [show leftOf 1048576 (cnt A) = 1048576 - (cnt A : Int) from leftOf_pos (by omega)] at HZA
    obtain ⟨za, hza⟩ : ∃ za : Nat, cnt A = za := ⟨_, rfl⟩
    have hza0 : ¬ 1048576 - (za : Int) < 0 := by omega
    have HZC1 : Hid (∀ V, Below w.heap.size w V → Calls Tryd.prog 4 #[.agg #[.int .i64 C.kind, .slice b C.n d, .slice b' C.m d'], .int .i64 (1048576 - (za : Int))] V fun e w' => e = .returned (.int .i64 (leftOf (1048576 - (za : Int)) (cnt C))) ∧ Below V.heap.size V w') := fun V hb => HZC.out V _ (by omega) (by omega) hb
    rw [hza] at HZA
    by_cases hcC : 1048576 - (za : Int) < cnt C
    · rw [show leftOf (1048576 - (za : Int)) (cnt C) = -1 from leftOf_neg hcC] at HZC1
      rw [hvA, hvC]
      clear hvA hvC hA hC hb0 hza HZC
      go_enter Tryd.func3, Tryd.ntmps3
      go_wp2_with fail
      rw [← hW0]
      clear hW0
      refine (HZA.out _ HBW0.out).mono ?_
      rintro e w1 ⟨rfl, hb1⟩
      have HB1 : Hid (Below w.heap.size w w1) := HBW0.out.trans (hb1.mono HBW0.out.size)
      obtain ⟨⟨x0, x1, x2⟩, ⟨y0, y1, y2⟩⟩ := HX.out w1 hb1
      clear hb1
      go_wp2_with fail
      refine (HZC1.out _ HB1.out).mono ?_
      rintro e w2 ⟨rfl, hb2⟩
      go_wp2_with fail
      go_ret
      exact ⟨rfl, HB1.out.trans (hb2.mono HB1.out.size)⟩
    · obtain ⟨zc, hzc⟩ : ∃ zc : Nat, cnt C = zc := ⟨_, rfl⟩
      rw [show leftOf (1048576 - (za : Int)) (cnt C) = 1048576 - (za : Int) - (cnt C : Int) from leftOf_pos hcC] at HZC1
      rw [hzc] at HZC1
      have hsum : cnt A + cnt C ≤ 1048576 := by omega
      have hzc0 : ¬ 1048576 - (za : Int) - (zc : Int) < 0 := by omega
      obtain ⟨T, hTT⟩ : ∃ T, normR2 catR A C = T := ⟨_, rfl⟩
      have hcT : cnt T ≤ 1048578 := by
        rw [← hTT]
        cases hf : (formB 60 A && formB 60 C) with
        | true => rw [normR2_true hf]; have := catR_cnt A C; omega
        | false => rw [normR2_false hf, zeroS_cnt]; omega
      have HTA : Hid (∀ V base, Below w.heap.size w V → Below base.heap.size base V → Calls Tryd.prog 6 #[.agg #[.int .i64 A.kind, .slice a A.n c, .slice a' A.m c']] V (ToR A base V)) := fun V base hb hbb => by
        have h := toRex_any A M V (hA.below hb) (by omega)
        rw [hvA] at h
        exact h.mono (fun e w' ⟨M1, he, hi, hb1⟩ => ⟨M1, he, hi.mono (fun k hk => hk.2), hb1, hbb.trans (hb1.mono hbb.size)⟩)
      have HTC : Hid (∀ V base, Below w.heap.size w V → Below base.heap.size base V → Calls Tryd.prog 6 #[.agg #[.int .i64 C.kind, .slice b C.n d, .slice b' C.m d']] V (ToR C base V)) := fun V base hb hbb => by
        have h := toRex_any C N V (hC.below hb) (by omega)
        rw [hvC] at h
        exact h.mono (fun e w' ⟨M1, he, hi, hb1⟩ => ⟨M1, he, hi.mono (fun k hk => hk.2), hb1, hbb.trans (hb1.mono hbb.size)⟩)
      have HTOA : Hid (∀ V, Below w.heap.size w V → Calls Tryd.prog 6 #[.agg #[.int .i64 A.kind, .slice a A.n c, .slice a' A.m c']] V (ToRes A V)) := fun V hb => by
        have h := toRex_any A M V (hA.below hb) (by omega)
        rwa [hvA] at h
      have HTOC : Hid (∀ V, Below w.heap.size w V → Calls Tryd.prog 6 #[.agg #[.int .i64 C.kind, .slice b C.n d, .slice b' C.m d']] V (ToRes C V)) := fun V hb => by
        have h := toRex_any C N V (hC.below hb) (by omega)
        rwa [hvC] at h
      have HSP : Hid (∀ MA MC V, In (Soft V) V A MA → In (Soft V) V C MC → Calls Tryd.prog 5 #[vx A MA, vx C MC] V (OwnRes T V)) := fun MA MC V h1 h2 => by rw [← hTT]; exact specNormCat_any A C MA MC V (h1.mono (fun _ _ => trivial)) (h2.mono (fun _ _ => trivial)) hsum
      have HIM : Hid (∀ MA MC V, Err V t ea → In (Soft V) V A MA → In (Soft V) V C MC → Calls Tryd.prog 7 #[vx A MA, vx C MC] V (OwnRes T V)) := fun MA MC V he h1 h2 => by rw [← hTT]; exact implNormCat_any A C MA MC V t ea he h1 h2 hsum
      have HE : Hid (Err w t ea) := hE
      rw [hvA, hvC]
      clear hvA hvC hA hC hb0 HZC hE hTT hcA hcC
      go_enter Tryd.func3, Tryd.ntmps3
      go_wp2_with fail
      rw [← hW0]
      clear hW0
      refine (HZA.out _ HBW0.out).mono ?_
      rintro e w1 ⟨rfl, hb1⟩
      have HB1 : Hid (Below w.heap.size w w1) := HBW0.out.trans (hb1.mono HBW0.out.size)
      have HB01 : Hid (Below W0.heap.size W0 w1) := hb1
      obtain ⟨⟨x0, x1, x2⟩, ⟨y0, y1, y2⟩⟩ := HX.out w1 hb1
      clear hb1
      go_wp2_with fail
      refine (HZC1.out _ HB1.out).mono ?_
      rintro e w2 ⟨rfl, hb2⟩
      have HB2 : Hid (Below w.heap.size w w2) := HB1.out.trans (hb2.mono HB1.out.size)
      have HB02 : Hid (Below W0.heap.size W0 w2) := HB01.out.trans (hb2.mono HB01.out.size)
      have hsw2 : W0.heap.size ≤ w2.heap.size := HB02.out.size
      clear x0 x1 x2 y0 y1 y2 hb2
      obtain ⟨⟨x0, x1, x2⟩, ⟨y0, y1, y2⟩⟩ := HX.out w2 HB02.out
      go_wp2_with fail
      go_cut [6] from 14 (fun s6 wc => BoxRes T w2 s6 wc)
      case first =>
        have HBd : Hid (Below w2.heap.size w2 w2.drew) := (Below.refl _ _).drew
        have HUP : Hid (∀ V, Below w2.heap.size w2 V → Below w.heap.size w V) := fun V hb => HB2.out.trans (hb.mono HB2.out.size)
        have HXX : Hid (∀ V, Below w2.heap.size w2 V → (V.cell? ⟨w.heap.size, 0, none⟩ = some (.int .i64 A.kind) ∧ V.cell? ⟨w.heap.size, 1, none⟩ = some (.slice a A.n c) ∧ V.cell? ⟨w.heap.size, 2, none⟩ = some (.slice a' A.m c')) ∧ (V.cell? ⟨w.heap.size + 1, 0, none⟩ = some (.int .i64 C.kind) ∧ V.cell? ⟨w.heap.size + 1, 1, none⟩ = some (.slice b C.n d) ∧ V.cell? ⟨w.heap.size + 1, 2, none⟩ = some (.slice b' C.m d'))) := fun V hb => HX.out V (HB02.out.trans (hb.mono HB02.out.size))
        have HTA8 : Hid (∀ V, Below w2.heap.size w2 V → Calls Tryd.prog 6 #[.agg #[.int .i64 A.kind, .slice a A.n c, .slice a' A.m c']] V (ToR A w2 V)) := fun V hb => HTA.out V w2 (HUP.out V hb) hb
        have HTC8 : Hid (∀ V, Below w2.heap.size w2 V → Calls Tryd.prog 6 #[.agg #[.int .i64 C.kind, .slice b C.n d, .slice b' C.m d']] V (ToR C w2 V)) := fun V hb => HTC.out V w2 (HUP.out V hb) hb
        have HSET : Hid (∀ (bx : Nat) (V : World) (u0 u1 u2 : Value), w2.heap.size ≤ bx → ((V.cell? ⟨w.heap.size, 0, none⟩ = some (.int .i64 A.kind) ∧ V.cell? ⟨w.heap.size, 1, none⟩ = some (.slice a A.n c) ∧ V.cell? ⟨w.heap.size, 2, none⟩ = some (.slice a' A.m c')) ∧ (V.cell? ⟨w.heap.size + 1, 0, none⟩ = some (.int .i64 C.kind) ∧ V.cell? ⟨w.heap.size + 1, 1, none⟩ = some (.slice b C.n d) ∧ V.cell? ⟨w.heap.size + 1, 2, none⟩ = some (.slice b' C.m d'))) → (((((V.setCell ⟨bx, 0, none⟩ u0).setCell ⟨bx, 1, none⟩ u1).setCell ⟨bx, 2, none⟩ u2).cell? ⟨w.heap.size, 0, none⟩ = some (.int .i64 A.kind) ∧ (((V.setCell ⟨bx, 0, none⟩ u0).setCell ⟨bx, 1, none⟩ u1).setCell ⟨bx, 2, none⟩ u2).cell? ⟨w.heap.size, 1, none⟩ = some (.slice a A.n c) ∧ (((V.setCell ⟨bx, 0, none⟩ u0).setCell ⟨bx, 1, none⟩ u1).setCell ⟨bx, 2, none⟩ u2).cell? ⟨w.heap.size, 2, none⟩ = some (.slice a' A.m c')) ∧ ((((V.setCell ⟨bx, 0, none⟩ u0).setCell ⟨bx, 1, none⟩ u1).setCell ⟨bx, 2, none⟩ u2).cell? ⟨w.heap.size + 1, 0, none⟩ = some (.int .i64 C.kind) ∧ (((V.setCell ⟨bx, 0, none⟩ u0).setCell ⟨bx, 1, none⟩ u1).setCell ⟨bx, 2, none⟩ u2).cell? ⟨w.heap.size + 1, 1, none⟩ = some (.slice b C.n d) ∧ (((V.setCell ⟨bx, 0, none⟩ u0).setCell ⟨bx, 1, none⟩ u1).setCell ⟨bx, 2, none⟩ u2).cell? ⟨w.heap.size + 1, 2, none⟩ = some (.slice b' C.m d')))) := fun bx V u0 u1 u2 hx h => by
          have k : ∀ bb o v, bb ≠ bx → V.cell? ⟨bb, o, none⟩ = some v → (((V.setCell ⟨bx, 0, none⟩ u0).setCell ⟨bx, 1, none⟩ u1).setCell ⟨bx, 2, none⟩ u2).cell? ⟨bb, o, none⟩ = some v := fun bb o v hn hh => (World.cell?_of_block (w := V) (a := ⟨bb, o, none⟩) (keep3 V bx 0 1 2 u0 u1 u2 hn)).trans hh
          have h1 : w.heap.size ≠ bx := by omega
          have h2 : w.heap.size + 1 ≠ bx := by omega
          exact ⟨⟨k _ _ _ h1 h.1.1, k _ _ _ h1 h.1.2.1, k _ _ _ h1 h.1.2.2⟩, ⟨k _ _ _ h2 h.2.1, k _ _ _ h2 h.2.2.1, k _ _ _ h2 h.2.2.2⟩⟩
        go_region_held (fun V => (V.cell? ⟨w.heap.size, 0, none⟩ = some (.int .i64 A.kind) ∧ V.cell? ⟨w.heap.size, 1, none⟩ = some (.slice a A.n c) ∧ V.cell? ⟨w.heap.size, 2, none⟩ = some (.slice a' A.m c')) ∧ (V.cell? ⟨w.heap.size + 1, 0, none⟩ = some (.int .i64 C.kind) ∧ V.cell? ⟨w.heap.size + 1, 1, none⟩ = some (.slice b C.n d) ∧ V.cell? ⟨w.heap.size + 1, 2, none⟩ = some (.slice b' C.m d'))) (first | (with_reducible refine HSET.out _ w3 _ _ _ ?_ ⟨⟨k0, k1, k2⟩, ⟨k3, k4, k5⟩⟩; omega) | go_keep)
          (first
            | (go_at_call 5; with_reducible refine (HSP.out MA MC (wC.alloc (.cells #[.int .i64 0, .slice none 0 0, .slice none 0 0] 30)) (softb HIA.out (below_new _ _)) (softb HIC.out (below_new _ _))).mono ?_
               rintro e w3 ⟨M0, rfl, hown0, hb3⟩
               obtain ⟨s1, s2, s3, s4, hv0⟩ := hown0.any.value'
               have HV0 : Hid (vx T M0 = .agg #[.int .i64 T.kind, .slice s1 T.n s2, .slice s3 T.m s4]) := hv0
               rw [hv0]
               have HO3 : Hid (Own _ w3 T M0) := hown0
               have HB3 : Hid (Below w2.heap.size w2 w3) := (below_al HBL.out _).trans (hb3.mono (below_al HBL.out _).size)
               have hlo : wC.heap.size < (wC.alloc (.cells #[.int .i64 0, .slice none 0 0, .slice none 0 0] 30)).heap.size := by simp
               have HRC : Hid (Rb w3 wC.heap.size) := rbn hb3
               obtain ⟨⟨k0, k1, k2⟩, ⟨k3, k4, k5⟩⟩ := HXX.out w3 HB3.out
               first
                 | (obtain ⟨⟨m0', g0⟩, ⟨m1', g1⟩, ⟨m2', g2⟩, gf⟩ := HRC.out.cells)
                 | skip)
            | (go_at_call 5; with_reducible refine (HSP.out MA MC wC (HIA.out) (HIC.out)).mono ?_
               rintro e w3 ⟨M0, rfl, hown0, hb3⟩
               obtain ⟨s1, s2, s3, s4, hv0⟩ := hown0.any.value'
               have HV0 : Hid (vx T M0 = .agg #[.int .i64 T.kind, .slice s1 T.n s2, .slice s3 T.m s4]) := hv0
               rw [hv0]
               have HO3 : Hid (Own _ w3 T M0) := hown0
               have HB3 : Hid (Below w2.heap.size w2 w3) := HBL.out.trans (hb3.mono HBL.out.size)
               first
                 | (have hlo := HRB.out.lt; have HRC : Hid (Rb w3 _) := HRB.out.of_block (hb3.block _ HRB.out.lt))
                 | skip
               obtain ⟨⟨k0, k1, k2⟩, ⟨k3, k4, k5⟩⟩ := HXX.out w3 HB3.out
               first
                 | (obtain ⟨⟨m0', g0⟩, ⟨m1', g1⟩, ⟨m2', g2⟩, gf⟩ := HRC.out.cells)
                 | skip)
            | (go_at_call 5; with_reducible refine (HSP.out MA MC (wA.alloc (.cells #[.int .i64 0, .slice none 0 0, .slice none 0 0] 30)) (softb HIA.out (below_new _ _)) (softb HIC.out (below_new _ _))).mono ?_
               rintro e w3 ⟨M0, rfl, hown0, hb3⟩
               obtain ⟨s1, s2, s3, s4, hv0⟩ := hown0.any.value'
               have HV0 : Hid (vx T M0 = .agg #[.int .i64 T.kind, .slice s1 T.n s2, .slice s3 T.m s4]) := hv0
               rw [hv0]
               have HO3 : Hid (Own _ w3 T M0) := hown0
               have HB3 : Hid (Below w2.heap.size w2 w3) := (below_al HBL.out _).trans (hb3.mono (below_al HBL.out _).size)
               have hlo : wA.heap.size < (wA.alloc (.cells #[.int .i64 0, .slice none 0 0, .slice none 0 0] 30)).heap.size := by simp
               have HRC : Hid (Rb w3 wA.heap.size) := rbn hb3
               obtain ⟨⟨k0, k1, k2⟩, ⟨k3, k4, k5⟩⟩ := HXX.out w3 HB3.out
               first
                 | (obtain ⟨⟨m0', g0⟩, ⟨m1', g1⟩, ⟨m2', g2⟩, gf⟩ := HRC.out.cells)
                 | skip)
            | (go_at_call 5; with_reducible refine (HSP.out MA MC wA (HIA.out) (HIC.out)).mono ?_
               rintro e w3 ⟨M0, rfl, hown0, hb3⟩
               obtain ⟨s1, s2, s3, s4, hv0⟩ := hown0.any.value'
               have HV0 : Hid (vx T M0 = .agg #[.int .i64 T.kind, .slice s1 T.n s2, .slice s3 T.m s4]) := hv0
               rw [hv0]
               have HO3 : Hid (Own _ w3 T M0) := hown0
               have HB3 : Hid (Below w2.heap.size w2 w3) := HBL.out.trans (hb3.mono HBL.out.size)
               first
                 | (have hlo := HRB.out.lt; have HRC : Hid (Rb w3 _) := HRB.out.of_block (hb3.block _ HRB.out.lt))
                 | skip
               obtain ⟨⟨k0, k1, k2⟩, ⟨k3, k4, k5⟩⟩ := HXX.out w3 HB3.out
               first
                 | (obtain ⟨⟨m0', g0⟩, ⟨m1', g1⟩, ⟨m2', g2⟩, gf⟩ := HRC.out.cells)
                 | skip)
            | (go_at_call 6; with_reducible refine (HTA8.out (wC.alloc (.cells #[.int .i64 0, .slice none 0 0, .slice none 0 0] 30)) (below_al HBL.out _)).mono ?_
               rintro e wA ⟨MA, rfl, hinA, hbA, hBA⟩
               have HIA : Hid (In (Soft wA) wA A MA) := hinA
               have HIC : Hid (In (Soft wA) wA C MC) := softb (softb HIC.out (below_new _ _)) hbA
               have HRB : Hid (Rb wA wC.heap.size) := rbn hbA
               have HBL : Hid (Below w2.heap.size w2 wA) := hBA
               have hszA : w2.heap.size ≤ wA.heap.size := hBA.size
               obtain ⟨⟨k0, k1, k2⟩, ⟨k3, k4, k5⟩⟩ := HXX.out wA hBA)
            | (go_at_call 6; with_reducible refine (HTA8.out wC HBL.out).mono ?_
               rintro e wA ⟨MA, rfl, hinA, hbA, hBA⟩
               have HIA : Hid (In (Soft wA) wA A MA) := hinA
               have HIC : Hid (In (Soft wA) wA C MC) := softb HIC.out hbA
               first | (have HRB : Hid (Rb wA _) := HRB.out.of_block (hbA.block _ HRB.out.lt)) | skip
               have HBL : Hid (Below w2.heap.size w2 wA) := hBA
               have hszA : w2.heap.size ≤ wA.heap.size := hBA.size
               obtain ⟨⟨k0, k1, k2⟩, ⟨k3, k4, k5⟩⟩ := HXX.out wA hBA)
            | (go_at_call 6; with_reducible refine (HTA8.out (w2.alloc (.cells #[.int .i64 0, .slice none 0 0, .slice none 0 0] 30)).drew (below_new w2 _).drew).mono ?_
               rintro e wA ⟨MA, rfl, hinA, hbA, hBA⟩
               have HIA : Hid (In (Soft wA) wA A MA) := hinA
               have HRB : Hid (Rb wA w2.heap.size) := rbd hbA
               have HBL : Hid (Below w2.heap.size w2 wA) := hBA
               have hszA : w2.heap.size ≤ wA.heap.size := hBA.size
               obtain ⟨⟨k0, k1, k2⟩, ⟨k3, k4, k5⟩⟩ := HXX.out wA hBA)
            | (go_at_call 6; with_reducible refine (HTA8.out w2.drew HBd.out).mono ?_
               rintro e wA ⟨MA, rfl, hinA, hbA, hBA⟩
               have HIA : Hid (In (Soft wA) wA A MA) := hinA
               have HBL : Hid (Below w2.heap.size w2 wA) := hBA
               have hszA : w2.heap.size ≤ wA.heap.size := hBA.size
               obtain ⟨⟨k0, k1, k2⟩, ⟨k3, k4, k5⟩⟩ := HXX.out wA hBA)
            | (go_at_call 6; with_reducible refine (HTC8.out (wA.alloc (.cells #[.int .i64 0, .slice none 0 0, .slice none 0 0] 30)) (below_al HBL.out _)).mono ?_
               rintro e wC ⟨MC, rfl, hinC, hbC, hBC⟩
               have HIC : Hid (In (Soft wC) wC C MC) := hinC
               have HIA : Hid (In (Soft wC) wC A MA) := softb (softb HIA.out (below_new _ _)) hbC
               have HRB : Hid (Rb wC wA.heap.size) := rbn hbC
               have HBL : Hid (Below w2.heap.size w2 wC) := hBC
               have hszC : w2.heap.size ≤ wC.heap.size := hBC.size
               obtain ⟨⟨k0, k1, k2⟩, ⟨k3, k4, k5⟩⟩ := HXX.out wC hBC)
            | (go_at_call 6; with_reducible refine (HTC8.out wA HBL.out).mono ?_
               rintro e wC ⟨MC, rfl, hinC, hbC, hBC⟩
               have HIC : Hid (In (Soft wC) wC C MC) := hinC
               have HIA : Hid (In (Soft wC) wC A MA) := softb HIA.out hbC
               first | (have HRB : Hid (Rb wC _) := HRB.out.of_block (hbC.block _ HRB.out.lt)) | skip
               have HBL : Hid (Below w2.heap.size w2 wC) := hBC
               have hszC : w2.heap.size ≤ wC.heap.size := hBC.size
               obtain ⟨⟨k0, k1, k2⟩, ⟨k3, k4, k5⟩⟩ := HXX.out wC hBC)
            | (go_at_call 6; with_reducible refine (HTC8.out (w2.alloc (.cells #[.int .i64 0, .slice none 0 0, .slice none 0 0] 30)).drew (below_new w2 _).drew).mono ?_
               rintro e wC ⟨MC, rfl, hinC, hbC, hBC⟩
               have HIC : Hid (In (Soft wC) wC C MC) := hinC
               have HRB : Hid (Rb wC w2.heap.size) := rbd hbC
               have HBL : Hid (Below w2.heap.size w2 wC) := hBC
               have hszC : w2.heap.size ≤ wC.heap.size := hBC.size
               obtain ⟨⟨k0, k1, k2⟩, ⟨k3, k4, k5⟩⟩ := HXX.out wC hBC)
            | (go_at_call 6; with_reducible refine (HTC8.out w2.drew HBd.out).mono ?_
               rintro e wC ⟨MC, rfl, hinC, hbC, hBC⟩
               have HIC : Hid (In (Soft wC) wC C MC) := hinC
               have HBL : Hid (Below w2.heap.size w2 wC) := hBC
               have hszC : w2.heap.size ≤ wC.heap.size := hBC.size
               obtain ⟨⟨k0, k1, k2⟩, ⟨k3, k4, k5⟩⟩ := HXX.out wC hBC))
        all_goals go_wp2_with fail
        all_goals go_meet
        all_goals first
          | exact BoxRes.new HO3.out HB3.out HV0.out
          | exact BoxRes.old HO3.out HB3.out HRC.out (by omega) hlo HV0.out
      case rest =>
        rename World => wk
        obtain ⟨b4, M0, s1, s2, s3, s4, rfl, hv0, ⟨p0, p1, p2⟩, hin0, hb4lo, hbc⟩ := hcut
        have HV0 : Hid (vx T M0 = .agg #[.int .i64 T.kind, .slice s1 T.n s2, .slice s3 T.m s4]) := hv0
        have hb4 : b4 < wk.heap.size := World.block_lt_of_cell? _ _ p0
        have HO0 : Hid (In (· < wk.heap.size) wk T M0) := In.lt hin0
        have HX4 : Hid (wk.cell? ⟨b4, 0, none⟩ = some (.int .i64 T.kind) ∧ wk.cell? ⟨b4, 1, none⟩ = some (.slice s1 T.n s2) ∧ wk.cell? ⟨b4, 2, none⟩ = some (.slice s3 T.m s4)) := ⟨p0, p1, p2⟩
        have HB0c : Hid (Below W0.heap.size W0 wk) := HB02.out.trans (hbc.mono HB02.out.size)
        have HBc : Hid (Below w.heap.size w wk) := HB2.out.trans (hbc.mono HB2.out.size)
        have hs2c : w2.heap.size ≤ wk.heap.size := hbc.size
        clear x0 x1 x2 y0 y1 y2 hv0 hin0 hbc p0 p1 p2
        obtain ⟨⟨x0, x1, x2⟩, ⟨y0, y1, y2⟩⟩ := HX.out wk HB0c.out
        go_wp2_with fail
        refine (HTOA.out _ HBc.out).mono ?_
        rintro e w5 ⟨M2, rfl, hin2, hb5⟩
        obtain ⟨u1, u2, u3, u4, hv2⟩ := hin2.value'
        have HV2 : Hid (vx A M2 = .agg #[.int .i64 A.kind, .slice u1 A.n u2, .slice u3 A.m u4]) := hv2
        have HI2 : Hid (In (fun k => wk.heap.size ≤ k ∧ Soft w5 k) w5 A M2) := hin2
        have HB5 : Hid (Below wk.heap.size wk w5) := hb5
        have hs5 : wk.heap.size ≤ w5.heap.size := hb5.size
        obtain ⟨W6, hW6⟩ : ∃ V, V = w5.alloc (.cells #[.int .i64 A.kind, .slice u1 A.n u2, .slice u3 A.m u4] 30) := ⟨_, rfl⟩
        have hbW6 : Below w5.heap.size w5 W6 := by rw [hW6]; exact below_new _ _
        have hsW6 : W6.heap.size = w5.heap.size + 1 := by rw [hW6]; exact size_new _ _
        have HXW6 : Hid (W6.cell? ⟨w5.heap.size, 0, none⟩ = some (.int .i64 A.kind) ∧ W6.cell? ⟨w5.heap.size, 1, none⟩ = some (.slice u1 A.n u2) ∧ W6.cell? ⟨w5.heap.size, 2, none⟩ = some (.slice u3 A.m u4)) := by rw [hW6]; exact ⟨by simp [go_sem], by simp [go_sem], by simp [go_sem]⟩
        have HBc6 : Hid (Below wk.heap.size wk W6) := HB5.out.trans (hbW6.mono HB5.out.size)
        have HB6 : Hid (Below w.heap.size w W6) := HBc.out.trans (HBc6.out.mono HBc.out.size)
        have HB56 : Hid (Below w5.heap.size w5 W6) := hbW6
        clear x0 x1 x2 y0 y1 y2
        obtain ⟨⟨x0, x1, x2⟩, ⟨y0, y1, y2⟩⟩ := HX.out W6 (HB0c.out.trans (HBc6.out.mono HB0c.out.size))
        rw [hW6] at x0 x1 x2 y0 y1 y2
        rw [hv2]
        clear hv2 hin2 hb5 hbW6
        go_wp2_with fail
        rw [← hW6]
        refine (HTOC.out _ HB6.out).mono ?_
        rintro e w7 ⟨M3, rfl, hin3, hb7⟩
        obtain ⟨v1, v2, v3, v4, hv3⟩ := hin3.value'
        have HV3 : Hid (vx C M3 = .agg #[.int .i64 C.kind, .slice v1 C.n v2, .slice v3 C.m v4]) := hv3
        have HI3 : Hid (In (fun k => W6.heap.size ≤ k ∧ Soft w7 k) w7 C M3) := hin3
        have HB67 : Hid (Below W6.heap.size W6 w7) := hb7
        have hs7 : W6.heap.size ≤ w7.heap.size := hb7.size
        obtain ⟨W8, hW8⟩ : ∃ V, V = w7.alloc (.cells #[.int .i64 C.kind, .slice v1 C.n v2, .slice v3 C.m v4] 30) := ⟨_, rfl⟩
        have hbW8 : Below w7.heap.size w7 W8 := by rw [hW8]; exact below_new _ _
        have hsW8 : W8.heap.size = w7.heap.size + 1 := by rw [hW8]; exact size_new _ _
        have HXW8 : Hid (W8.cell? ⟨w7.heap.size, 0, none⟩ = some (.int .i64 C.kind) ∧ W8.cell? ⟨w7.heap.size, 1, none⟩ = some (.slice v1 C.n v2) ∧ W8.cell? ⟨w7.heap.size, 2, none⟩ = some (.slice v3 C.m v4)) := by rw [hW8]; exact ⟨by simp [go_sem], by simp [go_sem], by simp [go_sem]⟩
        have HB68 : Hid (Below W6.heap.size W6 W8) := HB67.out.trans (hbW8.mono HB67.out.size)
        have HBc8 : Hid (Below wk.heap.size wk W8) := HBc6.out.trans (HB68.out.mono HBc6.out.size)
        have HB8 : Hid (Below w.heap.size w W8) := HBc.out.trans (HBc8.out.mono HBc.out.size)
        have HB78 : Hid (Below w7.heap.size w7 W8) := hbW8
        have HIM8 : Hid (Calls Tryd.prog 7 #[.agg #[.int .i64 A.kind, .slice u1 A.n u2, .slice u3 A.m u4], .agg #[.int .i64 C.kind, .slice v1 C.n v2, .slice v3 C.m v4]] W8 (OwnRes T W8)) := by
          have h58 : Below w5.heap.size w5 W8 := HB56.out.trans (HB68.out.mono HB56.out.size)
          have h := HIM.out M2 M3 W8 (HE.out.below HB8.out) ((HI2.out.below h58).mono (fun k hk => hk.2.below h58)) ((HI3.out.below HB78.out).mono (fun k hk => hk.2.below HB78.out))
          rwa [HV2.out, HV3.out] at h
        have r0 := (HB68.out.cell (p := ⟨w5.heap.size, 0, none⟩) (by show w5.heap.size < _; omega)).trans HXW6.out.1
        have r1 := (HB68.out.cell (p := ⟨w5.heap.size, 1, none⟩) (by show w5.heap.size < _; omega)).trans HXW6.out.2.1
        have r2 := (HB68.out.cell (p := ⟨w5.heap.size, 2, none⟩) (by show w5.heap.size < _; omega)).trans HXW6.out.2.2
        rw [hW8] at r0 r1 r2
        rw [hv3]
        clear hv3 hin3 hb7 hW6 x0 x1 x2 y0 y1 y2 hbW8
        go_wp2_with fail
        rw [← hW8]
        clear hW8 r0 r1 r2
        refine HIM8.out.mono ?_
        rintro e w9 ⟨M5, rfl, hown5, hb9⟩
        obtain ⟨g1, g2, g3, g4, hv5⟩ := hown5.any.value'
        have HV5 : Hid (vx T M5 = .agg #[.int .i64 T.kind, .slice g1 T.n g2, .slice g3 T.m g4]) := hv5
        have HB89 : Hid (Below W8.heap.size W8 w9) := hb9
        have hs9 : W8.heap.size ≤ w9.heap.size := hb9.size
        obtain ⟨W10, hW10⟩ : ∃ V, V = w9.alloc (.cells #[.int .i64 T.kind, .slice g1 T.n g2, .slice g3 T.m g4] 30) := ⟨_, rfl⟩
        have hbW10 : Below w9.heap.size w9 W10 := by rw [hW10]; exact below_new _ _
        have hsW10 : W10.heap.size = w9.heap.size + 1 := by rw [hW10]; exact size_new _ _
        have HXW10 : Hid (W10.cell? ⟨w9.heap.size, 0, none⟩ = some (.int .i64 T.kind) ∧ W10.cell? ⟨w9.heap.size, 1, none⟩ = some (.slice g1 T.n g2) ∧ W10.cell? ⟨w9.heap.size, 2, none⟩ = some (.slice g3 T.m g4)) := by rw [hW10]; exact ⟨by simp [go_sem], by simp [go_sem], by simp [go_sem]⟩
        have HB810 : Hid (Below W8.heap.size W8 W10) := HB89.out.trans (hbW10.mono HB89.out.size)
        have HBc10 : Hid (Below wk.heap.size wk W10) := HBc8.out.trans (HB810.out.mono HBc8.out.size)
        have HB10 : Hid (Below w.heap.size w W10) := HBc.out.trans (HBc10.out.mono HBc.out.size)
        have HB610 : Hid (Below W6.heap.size W6 W10) := HB68.out.trans (HB810.out.mono HB68.out.size)
        have HO10 : Hid (Own W8.heap.size W10 T M5 ∧ ∀ x ∈ bl T M5, W8.heap.size ≤ x ∧ x < w9.heap.size) := ⟨hown5.below hbW10, fun x hx => ⟨(hown5.1.bl_mem x hx).1, (hown5.1.bl_mem x hx).2.lt⟩⟩
        have HFT : Hid (∀ V, Far (fun k => (wk.heap.size ≤ k ∧ k < w7.heap.size ∧ k ≠ w5.heap.size) ∨ (W8.heap.size ≤ k ∧ k < w9.heap.size)) W10 V → Below w.heap.size w V) := fun V hf => HB10.out.trans ((hf.toBelow (n := w.heap.size) (fun k hk => by omega) (by omega)))
        have HCAC : Hid (∀ V, Far (fun k => (wk.heap.size ≤ k ∧ k < w7.heap.size ∧ k ≠ w5.heap.size) ∨ (W8.heap.size ≤ k ∧ k < w9.heap.size)) W10 V → (V.cell? ⟨w.heap.size, 0, none⟩ = some (.int .i64 A.kind) ∧ V.cell? ⟨w.heap.size, 1, none⟩ = some (.slice a A.n c) ∧ V.cell? ⟨w.heap.size, 2, none⟩ = some (.slice a' A.m c')) ∧ (V.cell? ⟨w.heap.size + 1, 0, none⟩ = some (.int .i64 C.kind) ∧ V.cell? ⟨w.heap.size + 1, 1, none⟩ = some (.slice b C.n d) ∧ V.cell? ⟨w.heap.size + 1, 2, none⟩ = some (.slice b' C.m d'))) := fun V hf => by
          obtain ⟨⟨q0, q1, q2⟩, ⟨q3, q4, q5⟩⟩ := HX.out W10 (HB0c.out.trans (HBc10.out.mono HB0c.out.size))
          exact ⟨⟨hf.cell q0 (by omega), hf.cell q1 (by omega), hf.cell q2 (by omega)⟩, ⟨hf.cell q3 (by omega), hf.cell q4 (by omega), hf.cell q5 (by omega)⟩⟩
        have HC4 : Hid (∀ V, Far (fun k => (wk.heap.size ≤ k ∧ k < w7.heap.size ∧ k ≠ w5.heap.size) ∨ (W8.heap.size ≤ k ∧ k < w9.heap.size)) W10 V → V.cell? ⟨b4, 0, none⟩ = some (.int .i64 T.kind) ∧ V.cell? ⟨b4, 1, none⟩ = some (.slice s1 T.n s2) ∧ V.cell? ⟨b4, 2, none⟩ = some (.slice s3 T.m s4)) := fun V hf => by
          obtain ⟨q0, q1, q2⟩ := HX4.out
          have k : ∀ o v, wk.cell? ⟨b4, o, none⟩ = some v → W10.cell? ⟨b4, o, none⟩ = some v := fun o v h => (HBc10.out.cell (p := ⟨b4, o, none⟩) (World.block_lt_of_cell? _ _ h)).trans h
          exact ⟨hf.cell (k _ _ q0) (by omega), hf.cell (k _ _ q1) (by omega), hf.cell (k _ _ q2) (by omega)⟩
        have HC5 : Hid (∀ V, Far (fun k => (wk.heap.size ≤ k ∧ k < w7.heap.size ∧ k ≠ w5.heap.size) ∨ (W8.heap.size ≤ k ∧ k < w9.heap.size)) W10 V → V.cell? ⟨w5.heap.size, 0, none⟩ = some (.int .i64 A.kind) ∧ V.cell? ⟨w5.heap.size, 1, none⟩ = some (.slice u1 A.n u2) ∧ V.cell? ⟨w5.heap.size, 2, none⟩ = some (.slice u3 A.m u4)) := fun V hf => by
          obtain ⟨q0, q1, q2⟩ := HXW6.out
          have k : ∀ o v, W6.cell? ⟨w5.heap.size, o, none⟩ = some v → W10.cell? ⟨w5.heap.size, o, none⟩ = some v := fun o v h => (HB610.out.cell (p := ⟨w5.heap.size, o, none⟩) (World.block_lt_of_cell? _ _ h)).trans h
          exact ⟨hf.cell (k _ _ q0) (by omega), hf.cell (k _ _ q1) (by omega), hf.cell (k _ _ q2) (by omega)⟩
        have HC6 : Hid (∀ V, Far (fun k => (wk.heap.size ≤ k ∧ k < w7.heap.size ∧ k ≠ w5.heap.size) ∨ (W8.heap.size ≤ k ∧ k < w9.heap.size)) W10 V → V.cell? ⟨w7.heap.size, 0, none⟩ = some (.int .i64 C.kind) ∧ V.cell? ⟨w7.heap.size, 1, none⟩ = some (.slice v1 C.n v2) ∧ V.cell? ⟨w7.heap.size, 2, none⟩ = some (.slice v3 C.m v4)) := fun V hf => by
          obtain ⟨q0, q1, q2⟩ := HXW8.out
          have k : ∀ o v, W8.cell? ⟨w7.heap.size, o, none⟩ = some v → W10.cell? ⟨w7.heap.size, o, none⟩ = some v := fun o v h => (HB810.out.cell (p := ⟨w7.heap.size, o, none⟩) (World.block_lt_of_cell? _ _ h)).trans h
          exact ⟨hf.cell (k _ _ q0) (by omega), hf.cell (k _ _ q1) (by omega), hf.cell (k _ _ q2) (by omega)⟩
        have HC7 : Hid (∀ V, Far (fun k => (wk.heap.size ≤ k ∧ k < w7.heap.size ∧ k ≠ w5.heap.size) ∨ (W8.heap.size ≤ k ∧ k < w9.heap.size)) W10 V → V.cell? ⟨w9.heap.size, 0, none⟩ = some (.int .i64 T.kind) ∧ V.cell? ⟨w9.heap.size, 1, none⟩ = some (.slice g1 T.n g2) ∧ V.cell? ⟨w9.heap.size, 2, none⟩ = some (.slice g3 T.m g4)) := fun V hf => by
          obtain ⟨q0, q1, q2⟩ := HXW10.out
          have k : ∀ o v, W10.cell? ⟨w9.heap.size, o, none⟩ = some v → W10.cell? ⟨w9.heap.size, o, none⟩ = some v := fun o v h => ((Below.refl W10.heap.size W10).cell (p := ⟨w9.heap.size, o, none⟩) (World.block_lt_of_cell? _ _ h)).trans h
          exact ⟨hf.cell (k _ _ q0) (by omega), hf.cell (k _ _ q1) (by omega), hf.cell (k _ _ q2) (by omega)⟩
        have HEQ : Hid (∀ V, Far (fun k => (wk.heap.size ≤ k ∧ k < w7.heap.size ∧ k ≠ w5.heap.size) ∨ (W8.heap.size ≤ k ∧ k < w9.heap.size)) W10 V → In AnyB V T M5 → Calls Tryd.prog 8 #[.agg #[.int .i64 T.kind, .slice g1 T.n g2, .slice g3 T.m g4], .agg #[.int .i64 T.kind, .slice s1 T.n s2, .slice s3 T.m s4]] V fun e w' => e = .returned (.bool true) ∧ Below V.heap.size V w') := fun V hf h => by
          have h0 : In AnyB V T M0 := by
            have h3 : In (· < wk.heap.size) W10 T M0 := HO0.out.keep (fun k hk _ => HBc10.out.block k hk)
            exact (h3.keep (fun k hk hlt => hf.far k hlt (by omega))).mono (fun _ _ => trivial)
          have hh := eqRex_big T M5 M0 V h h0 (by omega)
          rwa [HV5.out, HV0.out] at hh
        have HT0 : Hid (∀ V, Far (fun k => (wk.heap.size ≤ k ∧ k < w7.heap.size ∧ k ≠ w5.heap.size) ∨ (W8.heap.size ≤ k ∧ k < w9.heap.size)) W10 V → In AnyB V T M0) := fun V hf => by
          have h3 : In (· < wk.heap.size) W10 T M0 := HO0.out.keep (fun k hk _ => HBc10.out.block k hk)
          exact (h3.keep (fun k hk hlt => hf.far k hlt (by omega))).mono (fun _ _ => trivial)
        have HS2 : Hid (∀ V, Below W10.heap.size W10 V → In (Mine wk.heap.size w5.heap.size V) V A M2) := fun V hb => by
          have h5V : Below w5.heap.size w5 V := (HB56.out.trans (HB610.out.mono HB56.out.size)).trans (hb.mono (by omega))
          exact (HI2.out.below h5V).mono (fun k hk => ⟨hk.1, hk.2.lt, fun o => (hk.2.below h5V).frozen o⟩)
        have HS3 : Hid (∀ V, Below W10.heap.size W10 V → In (Mine W6.heap.size w7.heap.size V) V C M3) := fun V hb => by
          have h7V : Below w7.heap.size w7 V := (HB78.out.trans (HB810.out.mono HB78.out.size)).trans (hb.mono (by omega))
          exact (HI3.out.below h7V).mono (fun k hk => ⟨hk.1, hk.2.lt, fun o => (hk.2.below h7V).frozen o⟩)
        have HE2 : Hid (∀ M' V, Below W10.heap.size W10 V → In AnyB V A M' → Calls Tryd.prog 8 #[.agg #[.int .i64 A.kind, .slice u1 A.n u2, .slice u3 A.m u4], vx A M'] V fun e w' => e = .returned (.bool true) ∧ Below V.heap.size V w') := fun M' V hb h => by
          have hh := eqRex_big A M2 M' V ((HS2.out V hb).mono (fun _ _ => trivial)) h (by omega)
          rwa [HV2.out] at hh
        have HE3 : Hid (∀ M' V, Below W10.heap.size W10 V → In AnyB V C M' → Calls Tryd.prog 8 #[.agg #[.int .i64 C.kind, .slice v1 C.n v2, .slice v3 C.m v4], vx C M'] V fun e w' => e = .returned (.bool true) ∧ Below V.heap.size V w') := fun M' V hb h => by
          have hh := eqRex_big C M3 M' V ((HS3.out V hb).mono (fun _ _ => trivial)) h (by omega)
          rwa [HV3.out] at hh
        have hmA := mk_le A
        have hmC := mk_le C
        have hmT := mk_le T
        obtain ⟨ma, hma⟩ : ∃ x : Nat, mk A = x := ⟨_, rfl⟩
        obtain ⟨mc, hmc⟩ : ∃ x : Nat, mk C = x := ⟨_, rfl⟩
        obtain ⟨mt, hmt⟩ : ∃ x : Nat, mk T = x := ⟨_, rfl⟩
        rw [hma] at hmA
        rw [hmc] at hmC
        rw [hmt] at hmT
        have HM2 : Hid (∀ V, Below W10.heap.size W10 V → Calls Tryd.prog 9 #[.agg #[.int .i64 A.kind, .slice u1 A.n u2, .slice u3 A.m u4], .int .i64 1] V fun e w' => e = .returned (.int .i64 (1 + (ma : Int))) ∧ Marks wk.heap.size w5.heap.size V w') := fun V hb => by
          have hh := markRex_k wk.heap.size w5.heap.size A M2 1 (by omega) (by omega) V (HS2.out V hb) (by omega)
          rwa [HV2.out, hma] at hh
        have HM3 : Hid (∀ V V', Below W10.heap.size W10 V → Marks wk.heap.size w5.heap.size V V' → Calls Tryd.prog 9 #[.agg #[.int .i64 C.kind, .slice v1 C.n v2, .slice v3 C.m v4], .int .i64 (1 + (ma : Int))] V' fun e w' => e = .returned (.int .i64 (1 + (ma : Int) + (mc : Int))) ∧ Marks W6.heap.size w7.heap.size V' w') := fun V V' hb hm => by
          have h3 := HS3.out V hb
          have h3' : In (Mine W6.heap.size w7.heap.size V') V' C M3 := (h3.keep (fun k hk hlt => hm.far k hlt (.inr (by have := hk.1; omega)))).mono (fun k hk => ⟨hk.1, hk.2.1, fun o => (hm.fr ⟨k, o, none⟩ (by show k < _; have := hb.size; have := hk.2.1; omega)).trans (hk.2.2 o)⟩)
          have hh := markRex_k W6.heap.size w7.heap.size C M3 (1 + (ma : Int)) (by omega) (by omega) V' h3' (by omega)
          rwa [HV3.out, hmc] at hh
        have HM5 : Hid (∀ V V' V'', Below W10.heap.size W10 V → Marks wk.heap.size w5.heap.size V V' → Marks W6.heap.size w7.heap.size V' V'' → Far (fun k => (wk.heap.size ≤ k ∧ k < w7.heap.size ∧ k ≠ w5.heap.size) ∨ (W8.heap.size ≤ k ∧ k < w9.heap.size)) W10 V'' ∧ In (Soft V'') V'' T M5) := fun V V' V'' hb hm hm2 => by
          refine ⟨((Far.below hb).trans (hm.toFar (fun k h1 h2 => .inl ⟨h1, by omega, by omega⟩))).trans (hm2.toFar (fun k h1 h2 => .inl ⟨by omega, h2, by omega⟩)), ?_⟩
          have h8 := HO10.out.1.below hb
          have hk : ∀ k, W8.heap.size ≤ k → k < V.heap.size → V''.heap[k]? = V.heap[k]? := fun k h1 h2 => (hm2.far k (by have := hm.size; omega) (.inr (by omega))).trans (hm.far k h2 (.inr (by omega)))
          exact (h8.1.keep (fun k h1 h2 => hk k h1.1 h2)).mono (fun k h1 => h1.2.of_block (hk k h1.1 h1.2.lt))
        have HMK5 : Hid (∀ V, In (Soft V) V T M5 → Calls Tryd.prog 9 #[.agg #[.int .i64 T.kind, .slice g1 T.n g2, .slice g3 T.m g4], .int .i64 1] V fun e w' => e = .returned (.int .i64 (1 + (mt : Int))) ∧ In (Soft w') w' (mkd 1 T) M5 ∧ Turn (· ∈ bl T M5) V w') := fun V h => by
          have hh := markRex_own T M5 V h HO10.out.1.2 (by omega)
          rwa [HV5.out, hmt] at hh
        have HHK5 : Hid (∀ V, In (Soft V) V (mkd 1 T) M5 → Calls Tryd.prog 10 #[.agg #[.int .i64 T.kind, .slice g1 T.n g2, .slice g3 T.m g4], .int .i64 1] V fun e w' => e = .returned (.int .i64 (1 + (mt : Int))) ∧ Below V.heap.size V w') := fun V h => by
          have hh := heldRex_own T M5 V h (by omega) T.kind
          have e := HV5.out
          rw [vx] at e
          rwa [e, hmt] at hh
        have hk20 : ¬ (1 + (ma : Int) + (mc : Int) < 0) := by omega
        have hmt0 : ¬ (1 + (mt : Int) < 0) := by omega
        have hmtt : ((1 + (mt : Int)) != (1 + (mt : Int))) = false := by simp
        have HFR : Hid (Far (fun k => (wk.heap.size ≤ k ∧ k < w7.heap.size ∧ k ≠ w5.heap.size) ∨ (W8.heap.size ≤ k ∧ k < w9.heap.size)) W10 W10) := Far.below (Below.refl _ _)
        have HI8 : Hid (In AnyB W10 T M5) := HO10.out.1.any
        obtain ⟨c0, c1, c2⟩ := HC4.out W10 HFR.out
        rw [hW10] at c0 c1 c2
        rw [hv5]
        clear hv5 hown5 hb9 hbW10 HIM8 HO0 HX4 HXW6 HXW8 HXW10 HSP hma hmc hmt
        go_wp2_with fail
        rw [← hW10]
        clear hW10 c0 c1 c2
        refine (HEQ.out W10 HFR.out HI8.out).mono ?_
        rintro e w11 ⟨rfl, hb11⟩
        have HB11 : Hid (Below W10.heap.size W10 w11) := hb11
        have HBw11 : Hid (Below w.heap.size w w11.drew) := (HFT.out w11 (Far.below hb11)).drew
        obtain ⟨⟨a0, a1, a2⟩, ⟨a3, a4, a5⟩⟩ := HCAC.out w11 (Far.below hb11)
        obtain ⟨x0, x1, x2⟩ := HC5.out w11 (Far.below hb11)
        have l11 : w5.heap.size < w11.heap.size := World.block_lt_of_cell? _ _ x0
        clear hb11
        go_wp2_with fail
        go_cut [44] from 14 (fun s wc => s = .bool false ∧ Below W10.heap.size W10 wc)
        case first =>
          go_region_with (first
            | (go_at_call 6; refine (HTOA.out _ HBw11.out).mono ?_; rintro e w12 ⟨M6, rfl, hin6, hb12⟩; have hb12' : Below w11.heap.size w11 w12 := (Below.refl _ _).drew.trans hb12
               have p0 := (hb12'.cell (p := ⟨w5.heap.size, 0, none⟩) l11).trans x0
               have p1 := (hb12'.cell (p := ⟨w5.heap.size, 1, none⟩) l11).trans x1
               have p2 := (hb12'.cell (p := ⟨w5.heap.size, 2, none⟩) l11).trans x2)
            | (go_at_call 8; refine (HE2.out M6 _ (HB11.out.trans (hb12'.mono HB11.out.size)) (hin6.mono (fun _ _ => trivial))).mono ?_; rintro e w13 ⟨rfl, hb13⟩))
          all_goals go_wp2_with fail
          all_goals go_meet
          all_goals exact ⟨rfl, (HB11.out.trans (hb12'.mono HB11.out.size)).trans (hb13.mono (Nat.le_trans HB11.out.size hb12'.size))⟩
        case rest =>
        rename World => w13
        obtain ⟨rfl, hb13⟩ := hcut
        clear a0 a1 a2 a3 a4 a5 x0 x1 x2 l11
        have HB13 : Hid (Below W10.heap.size W10 w13) := hb13
        have HBw13 : Hid (Below w.heap.size w w13.drew) := (HFT.out w13 (Far.below hb13)).drew
        obtain ⟨⟨a0, a1, a2⟩, ⟨a3, a4, a5⟩⟩ := HCAC.out w13 (Far.below hb13)
        obtain ⟨x0, x1, x2⟩ := HC6.out w13 (Far.below hb13)
        have l13 : w7.heap.size < w13.heap.size := World.block_lt_of_cell? _ _ x0
        clear hb13
        go_wp2_with fail
        go_cut [49] from 14 (fun s wc => s = .bool false ∧ Below W10.heap.size W10 wc)
        case first =>
          go_region_with (first
            | (go_at_call 6; refine (HTOC.out _ HBw13.out).mono ?_; rintro e w14 ⟨M6, rfl, hin6, hb14⟩; have hb14' : Below w13.heap.size w13 w14 := (Below.refl _ _).drew.trans hb14
               have p0 := (hb14'.cell (p := ⟨w7.heap.size, 0, none⟩) l13).trans x0
               have p1 := (hb14'.cell (p := ⟨w7.heap.size, 1, none⟩) l13).trans x1
               have p2 := (hb14'.cell (p := ⟨w7.heap.size, 2, none⟩) l13).trans x2)
            | (go_at_call 8; refine (HE3.out M6 _ (HB13.out.trans (hb14'.mono HB13.out.size)) (hin6.mono (fun _ _ => trivial))).mono ?_; rintro e w15 ⟨rfl, hb15⟩))
          all_goals go_wp2_with fail
          all_goals go_meet
          all_goals exact ⟨rfl, (HB13.out.trans (hb14'.mono HB13.out.size)).trans (hb15.mono (Nat.le_trans HB13.out.size hb14'.size))⟩
        case rest =>
        rename World => w16
        obtain ⟨rfl, hb16⟩ := hcut
        clear a0 a1 a2 a3 a4 a5 x0 x1 x2 l13 HBw13 HB13 HBw11 HB11
        have HB16 : Hid (Below W10.heap.size W10 w16) := hb16
        obtain ⟨y0, y1, y2⟩ := HC5.out w16 (Far.below hb16)
        clear hb16
        go_wp2_with fail
        refine (HM2.out w16 HB16.out).mono ?_
        rintro e w17 ⟨rfl, hm17⟩
        have HM17 : Hid (Marks wk.heap.size w5.heap.size w16 w17) := hm17
        have hf17 : Far (fun k => (wk.heap.size ≤ k ∧ k < w7.heap.size ∧ k ≠ w5.heap.size) ∨ (W8.heap.size ≤ k ∧ k < w9.heap.size)) W10 w17 := (Far.below HB16.out).trans (hm17.toFar (fun k h1 h2 => .inl ⟨h1, by omega, by omega⟩))
        obtain ⟨d0, d1, d2⟩ := HC6.out w17 hf17
        clear hm17 hf17 y0 y1 y2
        go_wp2_with fail
        refine (HM3.out w16 w17 HB16.out HM17.out).mono ?_
        rintro e w18 ⟨rfl, hm18⟩
        obtain ⟨hf18, hi18⟩ := HM5.out w16 w17 w18 HB16.out HM17.out hm18
        have HF18 : Hid (Far (fun k => (wk.heap.size ≤ k ∧ k < w7.heap.size ∧ k ≠ w5.heap.size) ∨ (W8.heap.size ≤ k ∧ k < w9.heap.size)) W10 w18) := hf18
        have HI18 : Hid (In (Soft w18) w18 T M5) := hi18
        obtain ⟨c0, c1, c2⟩ := HC4.out w18 hf18
        obtain ⟨g5, g6, g7⟩ := HC7.out w18 hf18
        clear hm18 hf18 hi18 d0 d1 d2
        go_wp2_with fail
        refine (HEQ.out w18 HF18.out (HI18.out.mono (fun _ _ => trivial))).mono ?_
        rintro e w19 ⟨rfl, hb19⟩
        have HF19 : Hid (Far (fun k => (wk.heap.size ≤ k ∧ k < w7.heap.size ∧ k ≠ w5.heap.size) ∨ (W8.heap.size ≤ k ∧ k < w9.heap.size)) W10 w19) := HF18.out.trans (Far.below hb19)
        have HI19 : Hid (In (Soft w19) w19 T M5) := (HI18.out.below hb19).mono (fun k hk => hk.below hb19)
        clear c0 c1 c2 g5 g6 g7 hb19
        obtain ⟨e0, e1, e2⟩ := HC7.out w19 HF19.out
        go_wp2_with fail
        refine (HMK5.out w19 HI19.out).mono ?_
        rintro e w20 ⟨rfl, hi20, ht20⟩
        have HF20 : Hid (Far (fun k => (wk.heap.size ≤ k ∧ k < w7.heap.size ∧ k ≠ w5.heap.size) ∨ (W8.heap.size ≤ k ∧ k < w9.heap.size)) W10 w20) := HF19.out.trans (ht20.toFar (fun k hk => .inr (HO10.out.2 k hk)))
        have HI20 : Hid (In (Soft w20) w20 (mkd 1 T) M5) := hi20
        obtain ⟨f0, f1, f2⟩ := HC7.out w20 HF20.out
        clear hi20 ht20 e0 e1 e2
        go_wp2_with fail
        refine (HHK5.out w20 HI20.out).mono ?_
        rintro e w22 ⟨rfl, hb22⟩
        have HF22 : Hid (Far (fun k => (wk.heap.size ≤ k ∧ k < w7.heap.size ∧ k ≠ w5.heap.size) ∨ (W8.heap.size ≤ k ∧ k < w9.heap.size)) W10 w22) := HF20.out.trans (Far.below hb22)
        have HI22 : Hid (In (Soft w22) w22 (mkd 1 T) M5) := (HI20.out.below hb22).mono (fun k hk => hk.below hb22)
        obtain ⟨⟨a0, a1, a2⟩, ⟨a3, a4, a5⟩⟩ := HCAC.out w22 HF22.out
        have hsw22 : w.heap.size + 2 ≤ w22.heap.size := World.block_lt_of_cell? _ _ a3
        clear hb22 f0 f1 f2
        go_wp2_with fail
        go_cut [13] from 14 (fun s wc => BoxRes T w22 s wc)
        case first =>
          have HSP9 : Hid (∀ MA MC V, Below w22.heap.size w22 V → In (Soft V) V A MA → In (Soft V) V C MC → Calls Tryd.prog 7 #[vx A MA, vx C MC] V (OwnRes T V)) := fun MA MC V hb h1 h2 => HIM.out MA MC V (HE.out.below (HFT.out V (HF22.out.trans (Far.below hb)))) h1 h2
          clear HEQ HT0 HS2 HS3 HE2 HE3 HM2 HM3 HM5 HMK5 HHK5 HIM
          have HBd : Hid (Below w22.heap.size w22 w22.drew) := (Below.refl _ _).drew
          have HUP : Hid (∀ V, Below w22.heap.size w22 V → Below w.heap.size w V) := fun V hb => HFT.out V (HF22.out.trans (Far.below hb))
          have HXX : Hid (∀ V, Below w22.heap.size w22 V → (V.cell? ⟨w.heap.size, 0, none⟩ = some (.int .i64 A.kind) ∧ V.cell? ⟨w.heap.size, 1, none⟩ = some (.slice a A.n c) ∧ V.cell? ⟨w.heap.size, 2, none⟩ = some (.slice a' A.m c')) ∧ (V.cell? ⟨w.heap.size + 1, 0, none⟩ = some (.int .i64 C.kind) ∧ V.cell? ⟨w.heap.size + 1, 1, none⟩ = some (.slice b C.n d) ∧ V.cell? ⟨w.heap.size + 1, 2, none⟩ = some (.slice b' C.m d'))) := fun V hb => HCAC.out V (HF22.out.trans (Far.below hb))
          have HTA8 : Hid (∀ V, Below w22.heap.size w22 V → Calls Tryd.prog 6 #[.agg #[.int .i64 A.kind, .slice a A.n c, .slice a' A.m c']] V (ToR A w22 V)) := fun V hb => HTA.out V w22 (HUP.out V hb) hb
          have HTC8 : Hid (∀ V, Below w22.heap.size w22 V → Calls Tryd.prog 6 #[.agg #[.int .i64 C.kind, .slice b C.n d, .slice b' C.m d']] V (ToR C w22 V)) := fun V hb => HTC.out V w22 (HUP.out V hb) hb
          have HSET : Hid (∀ (bx : Nat) (V : World) (u0 u1 u2 : Value), w22.heap.size ≤ bx → ((V.cell? ⟨w.heap.size, 0, none⟩ = some (.int .i64 A.kind) ∧ V.cell? ⟨w.heap.size, 1, none⟩ = some (.slice a A.n c) ∧ V.cell? ⟨w.heap.size, 2, none⟩ = some (.slice a' A.m c')) ∧ (V.cell? ⟨w.heap.size + 1, 0, none⟩ = some (.int .i64 C.kind) ∧ V.cell? ⟨w.heap.size + 1, 1, none⟩ = some (.slice b C.n d) ∧ V.cell? ⟨w.heap.size + 1, 2, none⟩ = some (.slice b' C.m d'))) → (((((V.setCell ⟨bx, 0, none⟩ u0).setCell ⟨bx, 1, none⟩ u1).setCell ⟨bx, 2, none⟩ u2).cell? ⟨w.heap.size, 0, none⟩ = some (.int .i64 A.kind) ∧ (((V.setCell ⟨bx, 0, none⟩ u0).setCell ⟨bx, 1, none⟩ u1).setCell ⟨bx, 2, none⟩ u2).cell? ⟨w.heap.size, 1, none⟩ = some (.slice a A.n c) ∧ (((V.setCell ⟨bx, 0, none⟩ u0).setCell ⟨bx, 1, none⟩ u1).setCell ⟨bx, 2, none⟩ u2).cell? ⟨w.heap.size, 2, none⟩ = some (.slice a' A.m c')) ∧ ((((V.setCell ⟨bx, 0, none⟩ u0).setCell ⟨bx, 1, none⟩ u1).setCell ⟨bx, 2, none⟩ u2).cell? ⟨w.heap.size + 1, 0, none⟩ = some (.int .i64 C.kind) ∧ (((V.setCell ⟨bx, 0, none⟩ u0).setCell ⟨bx, 1, none⟩ u1).setCell ⟨bx, 2, none⟩ u2).cell? ⟨w.heap.size + 1, 1, none⟩ = some (.slice b C.n d) ∧ (((V.setCell ⟨bx, 0, none⟩ u0).setCell ⟨bx, 1, none⟩ u1).setCell ⟨bx, 2, none⟩ u2).cell? ⟨w.heap.size + 1, 2, none⟩ = some (.slice b' C.m d')))) := fun bx V u0 u1 u2 hx h => by
            have k : ∀ bb o v, bb ≠ bx → V.cell? ⟨bb, o, none⟩ = some v → (((V.setCell ⟨bx, 0, none⟩ u0).setCell ⟨bx, 1, none⟩ u1).setCell ⟨bx, 2, none⟩ u2).cell? ⟨bb, o, none⟩ = some v := fun bb o v hn hh => (World.cell?_of_block (w := V) (a := ⟨bb, o, none⟩) (keep3 V bx 0 1 2 u0 u1 u2 hn)).trans hh
            have h1 : w.heap.size ≠ bx := by omega
            have h2 : w.heap.size + 1 ≠ bx := by omega
            exact ⟨⟨k _ _ _ h1 h.1.1, k _ _ _ h1 h.1.2.1, k _ _ _ h1 h.1.2.2⟩, ⟨k _ _ _ h2 h.2.1, k _ _ _ h2 h.2.2.1, k _ _ _ h2 h.2.2.2⟩⟩
          go_region_held (fun V => (V.cell? ⟨w.heap.size, 0, none⟩ = some (.int .i64 A.kind) ∧ V.cell? ⟨w.heap.size, 1, none⟩ = some (.slice a A.n c) ∧ V.cell? ⟨w.heap.size, 2, none⟩ = some (.slice a' A.m c')) ∧ (V.cell? ⟨w.heap.size + 1, 0, none⟩ = some (.int .i64 C.kind) ∧ V.cell? ⟨w.heap.size + 1, 1, none⟩ = some (.slice b C.n d) ∧ V.cell? ⟨w.heap.size + 1, 2, none⟩ = some (.slice b' C.m d'))) (first | (with_reducible refine HSET.out _ w3 _ _ _ ?_ ⟨⟨k0, k1, k2⟩, ⟨k3, k4, k5⟩⟩; omega) | go_keep)
            (first
              | (go_at_call 7; with_reducible refine (HSP9.out MA MC (wC.alloc (.cells #[.int .i64 0, .slice none 0 0, .slice none 0 0] 30)) (below_al HBL.out _) (softb HIA.out (below_new _ _)) (softb HIC.out (below_new _ _))).mono ?_
                 rintro e w3 ⟨M0, rfl, hown0, hb3⟩
                 obtain ⟨s1, s2, s3, s4, hv0⟩ := hown0.any.value'
                 have HV0 : Hid (vx T M0 = .agg #[.int .i64 T.kind, .slice s1 T.n s2, .slice s3 T.m s4]) := hv0
                 rw [hv0]
                 have HO3 : Hid (Own _ w3 T M0) := hown0
                 have HB3 : Hid (Below w22.heap.size w22 w3) := (below_al HBL.out _).trans (hb3.mono (below_al HBL.out _).size)
                 have hlo : wC.heap.size < (wC.alloc (.cells #[.int .i64 0, .slice none 0 0, .slice none 0 0] 30)).heap.size := by simp
                 have HRC : Hid (Rb w3 wC.heap.size) := rbn hb3
                 obtain ⟨⟨k0, k1, k2⟩, ⟨k3, k4, k5⟩⟩ := HXX.out w3 HB3.out
                 first
                   | (obtain ⟨⟨m0', g0⟩, ⟨m1', g1⟩, ⟨m2', g2⟩, gf⟩ := HRC.out.cells)
                   | skip)
              | (go_at_call 7; with_reducible refine (HSP9.out MA MC wC HBL.out (HIA.out) (HIC.out)).mono ?_
                 rintro e w3 ⟨M0, rfl, hown0, hb3⟩
                 obtain ⟨s1, s2, s3, s4, hv0⟩ := hown0.any.value'
                 have HV0 : Hid (vx T M0 = .agg #[.int .i64 T.kind, .slice s1 T.n s2, .slice s3 T.m s4]) := hv0
                 rw [hv0]
                 have HO3 : Hid (Own _ w3 T M0) := hown0
                 have HB3 : Hid (Below w22.heap.size w22 w3) := HBL.out.trans (hb3.mono HBL.out.size)
                 first
                   | (have hlo := HRB.out.lt; have HRC : Hid (Rb w3 _) := HRB.out.of_block (hb3.block _ HRB.out.lt))
                   | skip
                 obtain ⟨⟨k0, k1, k2⟩, ⟨k3, k4, k5⟩⟩ := HXX.out w3 HB3.out
                 first
                   | (obtain ⟨⟨m0', g0⟩, ⟨m1', g1⟩, ⟨m2', g2⟩, gf⟩ := HRC.out.cells)
                   | skip)
              | (go_at_call 7; with_reducible refine (HSP9.out MA MC (wA.alloc (.cells #[.int .i64 0, .slice none 0 0, .slice none 0 0] 30)) (below_al HBL.out _) (softb HIA.out (below_new _ _)) (softb HIC.out (below_new _ _))).mono ?_
                 rintro e w3 ⟨M0, rfl, hown0, hb3⟩
                 obtain ⟨s1, s2, s3, s4, hv0⟩ := hown0.any.value'
                 have HV0 : Hid (vx T M0 = .agg #[.int .i64 T.kind, .slice s1 T.n s2, .slice s3 T.m s4]) := hv0
                 rw [hv0]
                 have HO3 : Hid (Own _ w3 T M0) := hown0
                 have HB3 : Hid (Below w22.heap.size w22 w3) := (below_al HBL.out _).trans (hb3.mono (below_al HBL.out _).size)
                 have hlo : wA.heap.size < (wA.alloc (.cells #[.int .i64 0, .slice none 0 0, .slice none 0 0] 30)).heap.size := by simp
                 have HRC : Hid (Rb w3 wA.heap.size) := rbn hb3
                 obtain ⟨⟨k0, k1, k2⟩, ⟨k3, k4, k5⟩⟩ := HXX.out w3 HB3.out
                 first
                   | (obtain ⟨⟨m0', g0⟩, ⟨m1', g1⟩, ⟨m2', g2⟩, gf⟩ := HRC.out.cells)
                   | skip)
              | (go_at_call 7; with_reducible refine (HSP9.out MA MC wA HBL.out (HIA.out) (HIC.out)).mono ?_
                 rintro e w3 ⟨M0, rfl, hown0, hb3⟩
                 obtain ⟨s1, s2, s3, s4, hv0⟩ := hown0.any.value'
                 have HV0 : Hid (vx T M0 = .agg #[.int .i64 T.kind, .slice s1 T.n s2, .slice s3 T.m s4]) := hv0
                 rw [hv0]
                 have HO3 : Hid (Own _ w3 T M0) := hown0
                 have HB3 : Hid (Below w22.heap.size w22 w3) := HBL.out.trans (hb3.mono HBL.out.size)
                 first
                   | (have hlo := HRB.out.lt; have HRC : Hid (Rb w3 _) := HRB.out.of_block (hb3.block _ HRB.out.lt))
                   | skip
                 obtain ⟨⟨k0, k1, k2⟩, ⟨k3, k4, k5⟩⟩ := HXX.out w3 HB3.out
                 first
                   | (obtain ⟨⟨m0', g0⟩, ⟨m1', g1⟩, ⟨m2', g2⟩, gf⟩ := HRC.out.cells)
                   | skip)
              | (go_at_call 6; with_reducible refine (HTA8.out (wC.alloc (.cells #[.int .i64 0, .slice none 0 0, .slice none 0 0] 30)) (below_al HBL.out _)).mono ?_
                 rintro e wA ⟨MA, rfl, hinA, hbA, hBA⟩
                 have HIA : Hid (In (Soft wA) wA A MA) := hinA
                 have HIC : Hid (In (Soft wA) wA C MC) := softb (softb HIC.out (below_new _ _)) hbA
                 have HRB : Hid (Rb wA wC.heap.size) := rbn hbA
                 have HBL : Hid (Below w22.heap.size w22 wA) := hBA
                 have hszA : w22.heap.size ≤ wA.heap.size := hBA.size
                 obtain ⟨⟨k0, k1, k2⟩, ⟨k3, k4, k5⟩⟩ := HXX.out wA hBA)
              | (go_at_call 6; with_reducible refine (HTA8.out wC HBL.out).mono ?_
                 rintro e wA ⟨MA, rfl, hinA, hbA, hBA⟩
                 have HIA : Hid (In (Soft wA) wA A MA) := hinA
                 have HIC : Hid (In (Soft wA) wA C MC) := softb HIC.out hbA
                 first | (have HRB : Hid (Rb wA _) := HRB.out.of_block (hbA.block _ HRB.out.lt)) | skip
                 have HBL : Hid (Below w22.heap.size w22 wA) := hBA
                 have hszA : w22.heap.size ≤ wA.heap.size := hBA.size
                 obtain ⟨⟨k0, k1, k2⟩, ⟨k3, k4, k5⟩⟩ := HXX.out wA hBA)
              | (go_at_call 6; with_reducible refine (HTA8.out (w22.alloc (.cells #[.int .i64 0, .slice none 0 0, .slice none 0 0] 30)).drew (below_new w22 _).drew).mono ?_
                 rintro e wA ⟨MA, rfl, hinA, hbA, hBA⟩
                 have HIA : Hid (In (Soft wA) wA A MA) := hinA
                 have HRB : Hid (Rb wA w22.heap.size) := rbd hbA
                 have HBL : Hid (Below w22.heap.size w22 wA) := hBA
                 have hszA : w22.heap.size ≤ wA.heap.size := hBA.size
                 obtain ⟨⟨k0, k1, k2⟩, ⟨k3, k4, k5⟩⟩ := HXX.out wA hBA)
              | (go_at_call 6; with_reducible refine (HTA8.out w22.drew HBd.out).mono ?_
                 rintro e wA ⟨MA, rfl, hinA, hbA, hBA⟩
                 have HIA : Hid (In (Soft wA) wA A MA) := hinA
                 have HBL : Hid (Below w22.heap.size w22 wA) := hBA
                 have hszA : w22.heap.size ≤ wA.heap.size := hBA.size
                 obtain ⟨⟨k0, k1, k2⟩, ⟨k3, k4, k5⟩⟩ := HXX.out wA hBA)
              | (go_at_call 6; with_reducible refine (HTC8.out (wA.alloc (.cells #[.int .i64 0, .slice none 0 0, .slice none 0 0] 30)) (below_al HBL.out _)).mono ?_
                 rintro e wC ⟨MC, rfl, hinC, hbC, hBC⟩
                 have HIC : Hid (In (Soft wC) wC C MC) := hinC
                 have HIA : Hid (In (Soft wC) wC A MA) := softb (softb HIA.out (below_new _ _)) hbC
                 have HRB : Hid (Rb wC wA.heap.size) := rbn hbC
                 have HBL : Hid (Below w22.heap.size w22 wC) := hBC
                 have hszC : w22.heap.size ≤ wC.heap.size := hBC.size
                 obtain ⟨⟨k0, k1, k2⟩, ⟨k3, k4, k5⟩⟩ := HXX.out wC hBC)
              | (go_at_call 6; with_reducible refine (HTC8.out wA HBL.out).mono ?_
                 rintro e wC ⟨MC, rfl, hinC, hbC, hBC⟩
                 have HIC : Hid (In (Soft wC) wC C MC) := hinC
                 have HIA : Hid (In (Soft wC) wC A MA) := softb HIA.out hbC
                 first | (have HRB : Hid (Rb wC _) := HRB.out.of_block (hbC.block _ HRB.out.lt)) | skip
                 have HBL : Hid (Below w22.heap.size w22 wC) := hBC
                 have hszC : w22.heap.size ≤ wC.heap.size := hBC.size
                 obtain ⟨⟨k0, k1, k2⟩, ⟨k3, k4, k5⟩⟩ := HXX.out wC hBC)
              | (go_at_call 6; with_reducible refine (HTC8.out (w22.alloc (.cells #[.int .i64 0, .slice none 0 0, .slice none 0 0] 30)).drew (below_new w22 _).drew).mono ?_
                 rintro e wC ⟨MC, rfl, hinC, hbC, hBC⟩
                 have HIC : Hid (In (Soft wC) wC C MC) := hinC
                 have HRB : Hid (Rb wC w22.heap.size) := rbd hbC
                 have HBL : Hid (Below w22.heap.size w22 wC) := hBC
                 have hszC : w22.heap.size ≤ wC.heap.size := hBC.size
                 obtain ⟨⟨k0, k1, k2⟩, ⟨k3, k4, k5⟩⟩ := HXX.out wC hBC)
              | (go_at_call 6; with_reducible refine (HTC8.out w22.drew HBd.out).mono ?_
                 rintro e wC ⟨MC, rfl, hinC, hbC, hBC⟩
                 have HIC : Hid (In (Soft wC) wC C MC) := hinC
                 have HBL : Hid (Below w22.heap.size w22 wC) := hBC
                 have hszC : w22.heap.size ≤ wC.heap.size := hBC.size
                 obtain ⟨⟨k0, k1, k2⟩, ⟨k3, k4, k5⟩⟩ := HXX.out wC hBC))
          all_goals go_wp2_with fail
          all_goals go_meet
          all_goals first
            | exact BoxRes.new HO3.out HB3.out HV0.out
            | exact BoxRes.old HO3.out HB3.out HRC.out (by omega) hlo HV0.out
        case rest =>
        rename World => w23
        obtain ⟨b9, M9, h1, h2, h3, h4, rfl, hv9, ⟨p0, p1, p2⟩, hin9, hb9lo, hbc9⟩ := hcut
        have HF23 : Hid (Far (fun k => (wk.heap.size ≤ k ∧ k < w7.heap.size ∧ k ≠ w5.heap.size) ∨ (W8.heap.size ≤ k ∧ k < w9.heap.size)) W10 w23) := HF22.out.trans (Far.below hbc9)
        have HI23 : Hid (In (Soft w23) w23 (mkd 1 T) M5) := (HI22.out.below hbc9).mono (fun k hk => hk.below hbc9)
        have HE23 : Hid (Calls Tryd.prog 8 #[.agg #[.int .i64 T.kind, .slice h1 T.n h2, .slice h3 T.m h4], .agg #[.int .i64 T.kind, .slice s1 T.n s2, .slice s3 T.m s4]] w23 fun e w' => e = .returned (.bool true) ∧ Below w23.heap.size w23 w') := by
          have hh := eqRex_big T M9 M0 w23 hin9 (HT0.out w23 HF23.out) (by omega)
          rwa [hv9, HV0.out] at hh
        obtain ⟨c0, c1, c2⟩ := HC4.out w23 HF23.out
        clear hv9 hin9 hbc9 a0 a1 a2 a3 a4 a5
        go_wp2_with fail
        refine HE23.out.mono ?_
        rintro e w24 ⟨rfl, hb24⟩
        have HF24 : Hid (Far (fun k => (wk.heap.size ≤ k ∧ k < w7.heap.size ∧ k ≠ w5.heap.size) ∨ (W8.heap.size ≤ k ∧ k < w9.heap.size)) W10 w24) := HF23.out.trans (Far.below hb24)
        have HI24 : Hid (In (Soft w24) w24 (mkd 1 T) M5) := (HI23.out.below hb24).mono (fun k hk => hk.below hb24)
        obtain ⟨f0, f1, f2⟩ := HC7.out w24 HF24.out
        clear hb24 c0 c1 c2 p0 p1 p2
        go_wp2_with fail
        refine (HHK5.out w24 HI24.out).mono ?_
        rintro e w25 ⟨rfl, hb25⟩
        have HF25 : Hid (Far (fun k => (wk.heap.size ≤ k ∧ k < w7.heap.size ∧ k ≠ w5.heap.size) ∨ (W8.heap.size ≤ k ∧ k < w9.heap.size)) W10 w25) := HF24.out.trans (Far.below hb25)
        clear hb25
        go_wp2_with fail
        go_ret
        exact ⟨rfl, HFT.out w25 HF25.out⟩
end Go.Proofs.YtiphmmgfmiiilaaDoor

