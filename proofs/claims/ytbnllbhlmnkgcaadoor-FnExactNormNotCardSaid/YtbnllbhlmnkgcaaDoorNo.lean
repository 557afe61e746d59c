/- The walks of the laws of NormStar and NormNot. -/
import Derived.Test.YtbnllbhlmnkgcaaDoorNp
import Derived.Deep.RegionWith
namespace Go.Proofs.YtbnllbhlmnkgcaaDoor
open Go.RowKit Go.Shelf
set_option linter.unusedVariables false
set_option linter.unusedSimpArgs false

/-- nothing turns but in the blocks of T -/
structure Far (T : Nat → Prop) (w w' : World) : Prop where
  os : w'.os = w.os
  tape : w'.tape = w.tape
  output : w'.output = w.output
  size : w.heap.size ≤ w'.heap.size
  far : ∀ k, k < w.heap.size → ¬ T k → w'.heap[k]? = w.heap[k]?
theorem Far.trans {T : Nat → Prop} {a b c : World} (h : Far T a b) (k : Far T b c) : Far T a c :=
  ⟨k.os.trans h.os, k.tape.trans h.tape, k.output.trans h.output, Nat.le_trans h.size k.size, fun j hj hf => (k.far j (Nat.lt_of_lt_of_le hj h.size) hf).trans (h.far j hj hf)⟩
theorem Far.below {T : Nat → Prop} {w w' : World} (hb : Below w.heap.size w w') : Far T w w' := ⟨hb.os, hb.tape, hb.output, hb.size, fun k hk _ => hb.block k hk⟩
theorem Far.cell {T : Nat → Prop} {w w' : World} (h : Far T w w') {b o : Nat} {v : Value} (hc : w.cell? ⟨b, o, none⟩ = some v) (hT : ¬ T b) : w'.cell? ⟨b, o, none⟩ = some v :=
  (World.cell?_of_block (w := w) (a := ⟨b, o, none⟩) (h.far b (World.block_lt_of_cell? _ _ hc) hT)).trans hc
theorem Far.toBelow {T : Nat → Prop} {w w' : World} {n : Nat} (h : Far T w w') (hT : ∀ k, T k → n ≤ k) (hn : n ≤ w.heap.size) : Below n w w' := ⟨h.os, h.tape, h.output, h.size, fun k hk => h.far k (by omega) (fun e => by have := hT k e; omega)⟩
theorem Turn.toFar {T T' : Nat → Prop} {w w' : World} (h : Turn T w w') (hT : ∀ k, T k → T' k) : Far T' w w' := ⟨h.os, h.tape, h.output, h.size, fun k hk hf => h.far k hk (fun e => hf (hT k e))⟩
theorem Marks.toFar {lo hi : Nat} {T' : Nat → Prop} {w w' : World} (h : Marks lo hi w w') (hT : ∀ k, lo ≤ k → k < hi → T' k) : Far T' w w' := ⟨h.os, h.tape, h.output, h.size, fun k hk hf => h.far k hk (by
  rcases Nat.lt_or_ge k lo with h1 | h1
  · exact .inl h1
  · rcases Nat.lt_or_ge k hi with h2 | h2
    · exact absurd (hT k h1 h2) hf
    · exact .inr h2)⟩
theorem normR_cnt {f : Sh → Sh} {S : Sh} (h : formB 60 S = true → cnt (f S) ≤ 1 + cnt S) (hc : cnt S ≤ 1048576) : cnt (normR f S) ≤ 1048577 := by
  cases hf : formB 60 S with
  | true => rw [normR_true hf]; have := h hf; omega
  | false => rw [normR_false hf, zeroS_cnt]; omega
theorem leftOf_lt' {c : Nat} (h : 1048576 < c) : leftOf 1048576 c = -1 := leftOf_neg (by omega)

set_option maxRecDepth 100000 in
set_option maxHeartbeats 8000000 in
theorem lawNormStar (S : Sh) (M : Mx) (w : World) (t : TypeId) (ea : Addr) (hE : Err w t ea) (hT : In AnyB w S M) :
    Calls Tryd.prog 14 #[vx S M] w fun e w' => e = .returned (.bool true) ∧ Below w.heap.size w w' := by
  obtain ⟨a, c, a', c', hv⟩ := hT.value'
  have HZ : Hid (∀ w1, Below w.heap.size w w1 → Calls Tryd.prog 30 #[vx S M, .int .i64 1048576] w1 fun e w' => e = .returned (.int .i64 (leftOf 1048576 (cnt S))) ∧ Below w1.heap.size w1 w') := fun w1 hb => szRex_any S M 1048576 w1 (hT.below hb) (by omega) (by omega)
  have hb0 : Below w.heap.size w (w.alloc (.cells #[.int .i64 S.kind, .slice a S.n c, .slice a' S.m c'] 46)) := below_new _ _
  by_cases hc : 1048576 < cnt S
  · rw [leftOf_lt' hc] at HZ
    rw [hv] at HZ ⊢
    clear hv
    go_enter Tryd.func14, Tryd.ntmps14
    go_wp2_with fail
    refine (HZ.out _ hb0).mono ?_
    rintro e w1 ⟨rfl, hb1⟩
    go_wp2_with fail
    go_ret
    exact ⟨rfl, hb0.trans (hb1.mono hb0.size)⟩
  · rw [show leftOf 1048576 (cnt S) = 1048576 - (cnt S : Int) from leftOf_pos (by omega)] at HZ
    have hcnt : cnt S ≤ 1048576 := by omega
    obtain ⟨T, hTT⟩ : ∃ T, normR starR S = T := ⟨_, rfl⟩
    have hcT : cnt T ≤ 1048577 := by rw [← hTT]; exact normR_cnt (fun _ => starR_cnt S) hcnt
    have HTO : Hid (∀ w1, Below w.heap.size w w1 → Calls Tryd.prog 31 #[vx S M] w1 (ToRes S w1)) := fun w1 hb => toRex_any S M w1 (hT.below hb) hcnt
    have HSP : Hid (∀ M1 w1, In AnyB w1 S M1 → Calls Tryd.prog 46 #[vx S M1] w1 (OwnRes T w1)) := fun M1 w1 h => by rw [← hTT]; exact specNormStar_any S M1 w1 h hcnt
    have HIM : Hid (∀ M1 w1, Err w1 t ea → In (Soft w1) w1 S M1 → Calls Tryd.prog 47 #[vx S M1] w1 (OwnRes T w1)) := fun M1 w1 he h => by rw [← hTT]; exact implNormStar_any S M1 w1 t ea he h hcnt
    have HEQT : Hid (∀ M1 M2 w1, In AnyB w1 T M1 → In AnyB w1 T M2 → Calls Tryd.prog 33 #[vx T M1, vx T M2] w1 fun e w' => e = .returned (.bool true) ∧ Below w1.heap.size w1 w') := fun M1 M2 w1 h1 h2 => eqRex_big T M1 M2 w1 h1 h2 (by omega)
    have HEQS : Hid (∀ M1 M2 w1, In AnyB w1 S M1 → In AnyB w1 S M2 → Calls Tryd.prog 33 #[vx S M1, vx S M2] w1 fun e w' => e = .returned (.bool true) ∧ Below w1.heap.size w1 w') := fun M1 M2 w1 h1 h2 => eqRex_big S M1 M2 w1 h1 h2 (by omega)
    have HMS : Hid (∀ (lo hi : Nat) M1 w1, In (Mine lo hi w1) w1 S M1 → Calls Tryd.prog 39 #[vx S M1, .int .i64 1] w1 fun e w' => e = .returned (.int .i64 (1 + (mk S : Nat))) ∧ Marks lo hi w1 w') := fun lo hi M1 w1 h => markRex_any lo hi S M1 w1 h hcnt
    have HMT : Hid (∀ M1 w1, In (Soft w1) w1 T M1 → (bl T M1).Nodup → Calls Tryd.prog 39 #[vx T M1, .int .i64 1] w1 fun e w' => e = .returned (.int .i64 (1 + (mk T : Nat))) ∧ In (Soft w') w' (mkd 1 T) M1 ∧ Turn (· ∈ bl T M1) w1 w') := fun M1 w1 h hn => markRex_own T M1 w1 h hn (by omega)
    have HHT : Hid (∀ M1 w1 kd, In (Soft w1) w1 (mkd 1 T) M1 → Calls Tryd.prog 45 #[.agg #[.int .i64 kd, M1.sv, M1.kv], .int .i64 1] w1 fun e w' => e = .returned (.int .i64 (1 + (mk T : Nat))) ∧ Below w1.heap.size w1 w') := fun M1 w1 kd h => heldRex_own T M1 w1 h (by omega) kd
    have hmS := mk_le S
    have hmT := mk_le T
    obtain ⟨z, hz⟩ : ∃ z : Nat, cnt S = z := ⟨_, rfl⟩
    obtain ⟨ms, hms⟩ : ∃ ms : Nat, mk S = ms := ⟨_, rfl⟩
    obtain ⟨mt, hmt⟩ : ∃ mt : Nat, mk T = mt := ⟨_, rfl⟩
    rw [hms] at HMS hmS
    rw [hmt] at HMT HHT hmT
    rw [hz] at HZ hmS
    have hz0 : ¬ 1048576 - (z : Int) < 0 := by omega
    have hms0 : ¬ (1 + (ms : Int) < 0) := by omega
    have hmt0 : ¬ (1 + (mt : Int) < 0) := by omega
    have hmtt : ((1 + (mt : Int)) != (1 + (mt : Int))) = false := by simp
    have HE : Hid (Err w t ea) := hE
    rw [hv] at HZ HTO ⊢
    clear hv hz hms hmt hcnt hc hT hE hTT
    go_enter Tryd.func14, Tryd.ntmps14
    go_wp2_with fail
    refine (HZ.out _ hb0).mono ?_
    rintro e w1 ⟨rfl, hb1⟩
    have HB1 : Hid (Below w.heap.size w w1) := hb0.trans (hb1.mono hb0.size)
    have a0 : w1.cell? ⟨w.heap.size, 0, none⟩ = some (.int .i64 S.kind) := (hb1.cell (p := ⟨w.heap.size, 0, none⟩) (by simp)).trans (by simp [go_sem])
    have a1 : w1.cell? ⟨w.heap.size, 1, none⟩ = some (.slice a S.n c) := (hb1.cell (p := ⟨w.heap.size, 1, none⟩) (by simp)).trans (by simp [go_sem])
    have a2 : w1.cell? ⟨w.heap.size, 2, none⟩ = some (.slice a' S.m c') := (hb1.cell (p := ⟨w.heap.size, 2, none⟩) (by simp)).trans (by simp [go_sem])
    have hlt1 : w.heap.size < w1.heap.size := World.block_lt_of_cell? _ _ a0
    clear hb1
    have HA1 : Hid (∀ V, Below w1.heap.size w1 V → V.cell? ⟨w.heap.size, 0, none⟩ = some (.int .i64 S.kind) ∧ V.cell? ⟨w.heap.size, 1, none⟩ = some (.slice a S.n c) ∧ V.cell? ⟨w.heap.size, 2, none⟩ = some (.slice a' S.m c')) := fun V hb =>
      ⟨(hb.cell (p := ⟨w.heap.size, 0, none⟩) hlt1).trans a0, (hb.cell (p := ⟨w.heap.size, 1, none⟩) hlt1).trans a1, (hb.cell (p := ⟨w.heap.size, 2, none⟩) hlt1).trans a2⟩
    go_wp2_with fail
    refine (HTO.out _ HB1.out).mono ?_
    rintro e w2 ⟨M1, rfl, hin1, hb2⟩
    have HI1 : Hid (In AnyB w2 S M1) := hin1.mono (fun _ _ => trivial)
    have HB12 : Hid (Below w1.heap.size w1 w2) := hb2
    clear a0 a1 a2 hin1 hb2
    go_wp2_with fail
    refine (HSP.out M1 w2 HI1.out).mono ?_
    rintro e w3 ⟨M0, rfl, hown0, hb3⟩
    obtain ⟨s1, s2, s3, s4, hv0⟩ := hown0.any.value'
    have HV0 : Hid (vx T M0 = .agg #[.int .i64 T.kind, .slice s1 T.n s2, .slice s3 T.m s4]) := hv0
    have HO0 : Hid (In (· < w3.heap.size) w3 T M0) := hown0.1.mono (fun k hk => hk.2.lt)
    have HB13 : Hid (Below w1.heap.size w1 w3) := HB12.out.trans (hb3.mono HB12.out.size)
    obtain ⟨W4, hW4⟩ : ∃ W4, W4 = w3.alloc (.cells #[.int .i64 T.kind, .slice s1 T.n s2, .slice s3 T.m s4] 26) := ⟨_, rfl⟩
    have hb4 : Below w3.heap.size w3 W4 := by rw [hW4]; exact below_new _ _
    have hs4 : W4.heap.size = w3.heap.size + 1 := by rw [hW4]; exact size_new _ _
    have HX4 : Hid (W4.cell? ⟨w3.heap.size, 0, none⟩ = some (.int .i64 T.kind) ∧ W4.cell? ⟨w3.heap.size, 1, none⟩ = some (.slice s1 T.n s2) ∧ W4.cell? ⟨w3.heap.size, 2, none⟩ = some (.slice s3 T.m s4)) := by rw [hW4]; exact ⟨by simp [go_sem], by simp [go_sem], by simp [go_sem]⟩
    have HB34 : Hid (Below w3.heap.size w3 W4) := hb4
    have HB14 : Hid (Below w1.heap.size w1 W4) := HB13.out.trans (hb4.mono HB13.out.size)
    have HB04 : Hid (Below w.heap.size w W4) := HB1.out.trans (HB14.out.mono HB1.out.size)
    have hs34 : w1.heap.size ≤ w3.heap.size := HB13.out.size
    have b0 := (HA1.out W4 HB14.out).1
    have b1 := (HA1.out W4 HB14.out).2.1
    have b2 := (HA1.out W4 HB14.out).2.2
    rw [hW4] at b0 b1 b2
    rw [hv0]
    clear hv0 hown0 hb3
    go_wp2_with fail
    rw [← hW4]
    refine (HTO.out _ HB04.out).mono ?_
    rintro e w5 ⟨M2, rfl, hin2, hb5⟩
    obtain ⟨u1, u2, u3, u4, hv2⟩ := hin2.value'
    have HV2 : Hid (vx S M2 = .agg #[.int .i64 S.kind, .slice u1 S.n u2, .slice u3 S.m u4]) := hv2
    have HI2 : Hid (In (fun k => W4.heap.size ≤ k ∧ Soft w5 k) w5 S M2) := hin2
    have HB45 : Hid (Below W4.heap.size W4 w5) := hb5
    have hs45 : W4.heap.size ≤ w5.heap.size := hb5.size
    obtain ⟨W6, hW6⟩ : ∃ W6, W6 = w5.alloc (.cells #[.int .i64 S.kind, .slice u1 S.n u2, .slice u3 S.m u4] 26) := ⟨_, rfl⟩
    have hb6 : Below w5.heap.size w5 W6 := by rw [hW6]; exact below_new _ _
    have hs6 : W6.heap.size = w5.heap.size + 1 := by rw [hW6]; exact size_new _ _
    have HX6 : Hid (W6.cell? ⟨w5.heap.size, 0, none⟩ = some (.int .i64 S.kind) ∧ W6.cell? ⟨w5.heap.size, 1, none⟩ = some (.slice u1 S.n u2) ∧ W6.cell? ⟨w5.heap.size, 2, none⟩ = some (.slice u3 S.m u4)) := by rw [hW6]; exact ⟨by simp [go_sem], by simp [go_sem], by simp [go_sem]⟩
    have HB46 : Hid (Below W4.heap.size W4 W6) := HB45.out.trans (hb6.mono HB45.out.size)
    have HB56 : Hid (Below w5.heap.size w5 W6) := hb6
    have HB06 : Hid (Below w.heap.size w W6) := HB04.out.trans (HB46.out.mono HB04.out.size)
    have HIM6 : Hid (Calls Tryd.prog 47 #[.agg #[.int .i64 S.kind, .slice u1 S.n u2, .slice u3 S.m u4]] W6 (OwnRes T W6)) := by
      have h := HIM.out M2 W6 (HE.out.below HB06.out) ((hin2.below hb6).mono (fun k hk => hk.2.below hb6))
      rwa [hv2] at h
    rw [hv2]
    clear hv2 hin2 hb5 hW4 b0 b1 b2 hb4
    go_wp2_with fail
    rw [← hW6]
    clear hW6
    refine HIM6.out.mono ?_
    rintro e w7 ⟨M5, rfl, hown5, hb7⟩
    obtain ⟨g1, g2, g3, g4, hv5⟩ := hown5.any.value'
    obtain ⟨_, _, _, _, _, _, _, _, es5, _, _, _, ek5, _⟩ := hown5.1.parts
    have HV5 : Hid (vx T M5 = .agg #[.int .i64 T.kind, .slice g1 T.n g2, .slice g3 T.m g4]) := hv5
    have HO5 : Hid (Own W6.heap.size w7 T M5) := hown5
    have HB67 : Hid (Below W6.heap.size W6 w7) := hb7
    have hs67 : W6.heap.size ≤ w7.heap.size := hb7.size
    obtain ⟨W8, hW8⟩ : ∃ W8, W8 = w7.alloc (.cells #[.int .i64 T.kind, .slice g1 T.n g2, .slice g3 T.m g4] 26) := ⟨_, rfl⟩
    have hb8 : Below w7.heap.size w7 W8 := by rw [hW8]; exact below_new _ _
    have hs8 : W8.heap.size = w7.heap.size + 1 := by rw [hW8]; exact size_new _ _
    have HX8 : Hid (W8.cell? ⟨w7.heap.size, 0, none⟩ = some (.int .i64 T.kind) ∧ W8.cell? ⟨w7.heap.size, 1, none⟩ = some (.slice g1 T.n g2) ∧ W8.cell? ⟨w7.heap.size, 2, none⟩ = some (.slice g3 T.m g4)) := by rw [hW8]; exact ⟨by simp [go_sem], by simp [go_sem], by simp [go_sem]⟩
    have HB68 : Hid (Below W6.heap.size W6 W8) := HB67.out.trans (hb8.mono HB67.out.size)
    have HB48 : Hid (Below W4.heap.size W4 W8) := HB46.out.trans (HB68.out.mono HB46.out.size)
    have HB18 : Hid (Below w1.heap.size w1 W8) := HB14.out.trans (HB48.out.mono HB14.out.size)
    have HB08 : Hid (Below w.heap.size w W8) := HB04.out.trans (HB48.out.mono HB04.out.size)
    have HO8 : Hid (Own W6.heap.size W8 T M5 ∧ ∀ x ∈ bl T M5, W6.heap.size ≤ x ∧ x < w7.heap.size) := ⟨hown5.below hb8, fun x hx => ⟨(hown5.1.bl_mem x hx).1, (hown5.1.bl_mem x hx).2.lt⟩⟩
    -- what stays
    have HFT : Hid (∀ V, Far (fun k => (W4.heap.size ≤ k ∧ k < w5.heap.size) ∨ (W6.heap.size ≤ k ∧ k < w7.heap.size)) W8 V → Below w.heap.size w V) := fun V hf => HB08.out.trans ((hf.toBelow (n := w.heap.size) (fun k hk => by omega) (by omega)))
    have HCA : Hid (∀ V, Far (fun k => (W4.heap.size ≤ k ∧ k < w5.heap.size) ∨ (W6.heap.size ≤ k ∧ k < w7.heap.size)) W8 V → V.cell? ⟨w.heap.size, 0, none⟩ = some (.int .i64 S.kind) ∧ V.cell? ⟨w.heap.size, 1, none⟩ = some (.slice a S.n c) ∧ V.cell? ⟨w.heap.size, 2, none⟩ = some (.slice a' S.m c')) := fun V hf => by
      obtain ⟨p0, p1, p2⟩ := HA1.out W8 HB18.out
      exact ⟨hf.cell p0 (by omega), hf.cell p1 (by omega), hf.cell p2 (by omega)⟩
    have HC4 : Hid (∀ V, Far (fun k => (W4.heap.size ≤ k ∧ k < w5.heap.size) ∨ (W6.heap.size ≤ k ∧ k < w7.heap.size)) W8 V → V.cell? ⟨w3.heap.size, 0, none⟩ = some (.int .i64 T.kind) ∧ V.cell? ⟨w3.heap.size, 1, none⟩ = some (.slice s1 T.n s2) ∧ V.cell? ⟨w3.heap.size, 2, none⟩ = some (.slice s3 T.m s4)) := fun V hf => by
      obtain ⟨p0, p1, p2⟩ := HX4.out
      have k0 := (HB48.out.cell (p := ⟨w3.heap.size, 0, none⟩) (by show w3.heap.size < _; omega)).trans p0
      have k1 := (HB48.out.cell (p := ⟨w3.heap.size, 1, none⟩) (by show w3.heap.size < _; omega)).trans p1
      have k2 := (HB48.out.cell (p := ⟨w3.heap.size, 2, none⟩) (by show w3.heap.size < _; omega)).trans p2
      exact ⟨hf.cell k0 (by omega), hf.cell k1 (by omega), hf.cell k2 (by omega)⟩
    have HC5 : Hid (∀ V, Far (fun k => (W4.heap.size ≤ k ∧ k < w5.heap.size) ∨ (W6.heap.size ≤ k ∧ k < w7.heap.size)) W8 V → V.cell? ⟨w5.heap.size, 0, none⟩ = some (.int .i64 S.kind) ∧ V.cell? ⟨w5.heap.size, 1, none⟩ = some (.slice u1 S.n u2) ∧ V.cell? ⟨w5.heap.size, 2, none⟩ = some (.slice u3 S.m u4)) := fun V hf => by
      obtain ⟨p0, p1, p2⟩ := HX6.out
      have k0 := (HB68.out.cell (p := ⟨w5.heap.size, 0, none⟩) (by show w5.heap.size < _; omega)).trans p0
      have k1 := (HB68.out.cell (p := ⟨w5.heap.size, 1, none⟩) (by show w5.heap.size < _; omega)).trans p1
      have k2 := (HB68.out.cell (p := ⟨w5.heap.size, 2, none⟩) (by show w5.heap.size < _; omega)).trans p2
      exact ⟨hf.cell k0 (by omega), hf.cell k1 (by omega), hf.cell k2 (by omega)⟩
    have HC6 : Hid (∀ V, Far (fun k => (W4.heap.size ≤ k ∧ k < w5.heap.size) ∨ (W6.heap.size ≤ k ∧ k < w7.heap.size)) W8 V → V.cell? ⟨w7.heap.size, 0, none⟩ = some (.int .i64 T.kind) ∧ V.cell? ⟨w7.heap.size, 1, none⟩ = some (.slice g1 T.n g2) ∧ V.cell? ⟨w7.heap.size, 2, none⟩ = some (.slice g3 T.m g4)) := fun V hf => by
      obtain ⟨p0, p1, p2⟩ := HX8.out
      exact ⟨hf.cell p0 (by omega), hf.cell p1 (by omega), hf.cell p2 (by omega)⟩
    have HT0 : Hid (∀ V, Far (fun k => (W4.heap.size ≤ k ∧ k < w5.heap.size) ∨ (W6.heap.size ≤ k ∧ k < w7.heap.size)) W8 V → In AnyB V T M0) := fun V hf => by
      have h3 : In (· < w3.heap.size) W8 T M0 := HO0.out.keep (fun k hk _ => (HB48.out.block k (by omega)).trans (by
        have hb34 := HB34.out
        exact hb34.block k hk))
      exact (h3.keep (fun k hk hlt => hf.far k hlt (by omega))).mono (fun _ _ => trivial)
    have HFR : Hid (Far (fun k => (W4.heap.size ≤ k ∧ k < w5.heap.size) ∨ (W6.heap.size ≤ k ∧ k < w7.heap.size)) W8 W8) := Far.below (Below.refl _ _)
    have HEQ : Hid (∀ V, Far (fun k => (W4.heap.size ≤ k ∧ k < w5.heap.size) ∨ (W6.heap.size ≤ k ∧ k < w7.heap.size)) W8 V → In AnyB V T M5 → Calls Tryd.prog 33 #[.agg #[.int .i64 T.kind, .slice g1 T.n g2, .slice g3 T.m g4], .agg #[.int .i64 T.kind, .slice s1 T.n s2, .slice s3 T.m s4]] V fun e w' => e = .returned (.bool true) ∧ Below V.heap.size V w') := fun V hf h => by
      have hh := HEQT.out M5 M0 V h (HT0.out V hf)
      rwa [HV5.out, HV0.out] at hh
    have HS2 : Hid (∀ V, Below W8.heap.size W8 V → In (Mine W4.heap.size w5.heap.size V) V S M2) := fun V hb => by
      have hb5V : Below w5.heap.size w5 V := (HB56.out.trans (HB68.out.mono HB56.out.size)).trans (hb.mono (by omega))
      exact (HI2.out.below hb5V).mono (fun k hk => ⟨hk.1, hk.2.lt, fun o => (hk.2.below hb5V).frozen o⟩)
    have HM2 : Hid (∀ V, Below W8.heap.size W8 V → Calls Tryd.prog 39 #[.agg #[.int .i64 S.kind, .slice u1 S.n u2, .slice u3 S.m u4], .int .i64 1] V fun e w' => e = .returned (.int .i64 (1 + (ms : Nat))) ∧ Marks W4.heap.size w5.heap.size V w') := fun V hb => by
      have hh := HMS.out W4.heap.size w5.heap.size M2 V (HS2.out V hb)
      rwa [HV2.out] at hh
    have HE2 : Hid (∀ M3 V, Below W8.heap.size W8 V → In AnyB V S M3 → Calls Tryd.prog 33 #[.agg #[.int .i64 S.kind, .slice u1 S.n u2, .slice u3 S.m u4], vx S M3] V fun e w' => e = .returned (.bool true) ∧ Below V.heap.size V w') := fun M3 V hb h => by
      have hh := HEQS.out M2 M3 V ((HS2.out V hb).mono (fun _ _ => trivial)) h
      rwa [HV2.out] at hh
    have HM5 : Hid (∀ V V', Below W8.heap.size W8 V → Marks W4.heap.size w5.heap.size V V' → Far (fun k => (W4.heap.size ≤ k ∧ k < w5.heap.size) ∨ (W6.heap.size ≤ k ∧ k < w7.heap.size)) W8 V' ∧ In (Soft V') V' T M5) := fun V V' hb hm => by
      refine ⟨(Far.below hb).trans (hm.toFar (fun k h1 h2 => .inl ⟨h1, h2⟩)), ?_⟩
      have h8 := HO8.out.1.below hb
      have hk : ∀ k, W6.heap.size ≤ k → k < V.heap.size → V'.heap[k]? = V.heap[k]? := fun k h1 h2 => hm.far k h2 (.inr (by omega))
      exact (h8.1.keep (fun k h1 h2 => hk k h1.1 h2)).mono (fun k h1 => h1.2.of_block (hk k h1.1 h1.2.lt))
    have HMK5 : Hid (∀ V, In (Soft V) V T M5 → Calls Tryd.prog 39 #[.agg #[.int .i64 T.kind, .slice g1 T.n g2, .slice g3 T.m g4], .int .i64 1] V fun e w' => e = .returned (.int .i64 (1 + (mt : Nat))) ∧ In (Soft w') w' (mkd 1 T) M5 ∧ Turn (· ∈ bl T M5) V w') := fun V h => by
      have hh := HMT.out M5 V h HO8.out.1.2
      rwa [HV5.out] at hh
    have HHK5 : Hid (∀ V, In (Soft V) V (mkd 1 T) M5 → Calls Tryd.prog 45 #[.agg #[.int .i64 T.kind, .slice g1 T.n g2, .slice g3 T.m g4], .int .i64 1] V fun e w' => e = .returned (.int .i64 (1 + (mt : Nat))) ∧ Below V.heap.size V w') := fun V h => by
      have hh := HHT.out M5 V T.kind h
      have e := HV5.out
      rw [vx] at e
      rwa [e] at hh
    have HIM9 : Hid (∀ M1 V, Far (fun k => (W4.heap.size ≤ k ∧ k < w5.heap.size) ∨ (W6.heap.size ≤ k ∧ k < w7.heap.size)) W8 V → In (Soft V) V S M1 → Calls Tryd.prog 47 #[vx S M1] V (OwnRes T V)) := fun M1 V hf h => HIM.out M1 V (HE.out.below (HFT.out V hf)) h
    have HI8 : Hid (In AnyB W8 T M5) := HO8.out.1.any
    obtain ⟨c0, c1, c2⟩ := HC4.out W8 HFR.out
    rw [hW8] at c0 c1 c2
    rw [hv5]
    clear hv5 hown5 hb7 es5 ek5 hb8 hb6 HEQT HEQS HMS HMT HHT HIM HSP HO0 HI2 HX4 HX6 HX8 HA1 HO5 HIM6
    go_wp2_with fail
    rw [← hW8]
    clear hW8 c0 c1 c2
    refine (HEQ.out W8 HFR.out HI8.out).mono ?_
    rintro e w9 ⟨rfl, hb9⟩
    have HB9 : Hid (Below W8.heap.size W8 w9) := hb9
    have HF9 : Hid (Far (fun k => (W4.heap.size ≤ k ∧ k < w5.heap.size) ∨ (W6.heap.size ≤ k ∧ k < w7.heap.size)) W8 w9) := Far.below hb9
    have HBw9 : Hid (Below w.heap.size w w9.drew) := (HFT.out w9 HF9.out).drew
    obtain ⟨a0, a1, a2⟩ := HCA.out w9 HF9.out
    obtain ⟨x0, x1, x2⟩ := HC5.out w9 HF9.out
    have l9 : w5.heap.size < w9.heap.size := World.block_lt_of_cell? _ _ x0
    clear hb9
    go_wp2_with fail
    go_region_with (first
      | (go_at_call 31; refine (HTO.out _ HBw9.out).mono ?_; rintro e w10 ⟨M3, rfl, hin3, hb10⟩; have hb10' : Below w9.heap.size w9 w10 := (Below.refl _ _).drew.trans hb10
         have p0 := (hb10'.cell (p := ⟨w5.heap.size, 0, none⟩) l9).trans x0
         have p1 := (hb10'.cell (p := ⟨w5.heap.size, 1, none⟩) l9).trans x1
         have p2 := (hb10'.cell (p := ⟨w5.heap.size, 2, none⟩) l9).trans x2)
      | (go_at_call 33; refine (HE2.out M3 _ (HB9.out.trans (hb10'.mono HB9.out.size)) (hin3.mono (fun _ _ => trivial))).mono ?_; rintro e w11 ⟨rfl, hb11⟩))
    all_goals
      have HB11 : Hid (Below W8.heap.size W8 w11) := (HB9.out.trans (hb10'.mono HB9.out.size)).trans (hb11.mono (Nat.le_trans HB9.out.size hb10'.size))
      obtain ⟨y0, y1, y2⟩ := HC5.out w11 (Far.below HB11.out)
      clear p0 p1 p2 x0 x1 x2 a0 a1 a2 hin3 hb10 hb10' hb11
      go_wp2_with fail
      refine (HM2.out w11 HB11.out).mono ?_
      rintro e w12 ⟨rfl, hm12⟩
      obtain ⟨hf12, hi12⟩ := HM5.out w11 w12 HB11.out hm12
      have HF12 : Hid (Far (fun k => (W4.heap.size ≤ k ∧ k < w5.heap.size) ∨ (W6.heap.size ≤ k ∧ k < w7.heap.size)) W8 w12) := hf12
      have HI12 : Hid (In (Soft w12) w12 T M5) := hi12
      obtain ⟨c0, c1, c2⟩ := HC4.out w12 hf12
      obtain ⟨d0, d1, d2⟩ := HC6.out w12 hf12
      clear hm12 hf12 hi12 y0 y1 y2
      go_wp2_with fail
      refine (HEQ.out w12 HF12.out (HI12.out.mono (fun _ _ => trivial))).mono ?_
      rintro e w13 ⟨rfl, hb13⟩
      have HF13 : Hid (Far (fun k => (W4.heap.size ≤ k ∧ k < w5.heap.size) ∨ (W6.heap.size ≤ k ∧ k < w7.heap.size)) W8 w13) := HF12.out.trans (Far.below hb13)
      have HI13 : Hid (In (Soft w13) w13 T M5) := (HI12.out.below hb13).mono (fun k hk => hk.below hb13)
      obtain ⟨e0, e1, e2⟩ := HC6.out w13 HF13.out
      clear hb13 c0 c1 c2 d0 d1 d2
      go_wp2_with fail
      refine (HMK5.out w13 HI13.out).mono ?_
      rintro e w14 ⟨rfl, hi14, ht14⟩
      have HF14 : Hid (Far (fun k => (W4.heap.size ≤ k ∧ k < w5.heap.size) ∨ (W6.heap.size ≤ k ∧ k < w7.heap.size)) W8 w14) := HF13.out.trans (ht14.toFar (fun k hk => .inr (HO8.out.2 k hk)))
      have HI14 : Hid (In (Soft w14) w14 (mkd 1 T) M5) := hi14
      obtain ⟨f0, f1, f2⟩ := HC6.out w14 HF14.out
      clear hi14 ht14 e0 e1 e2
      go_wp2_with fail
      refine (HHK5.out w14 HI14.out).mono ?_
      rintro e w15 ⟨rfl, hb15⟩
      have HF15 : Hid (Far (fun k => (W4.heap.size ≤ k ∧ k < w5.heap.size) ∨ (W6.heap.size ≤ k ∧ k < w7.heap.size)) W8 w15) := HF14.out.trans (Far.below hb15)
      have HI15 : Hid (In (Soft w15) w15 (mkd 1 T) M5) := (HI14.out.below hb15).mono (fun k hk => hk.below hb15)
      obtain ⟨a0, a1, a2⟩ := HCA.out w15 HF15.out
      clear hb15 f0 f1 f2
      go_wp2_with fail
      refine (HTO.out w15 (HFT.out w15 HF15.out)).mono ?_
      rintro e w16 ⟨M6, rfl, hin6, hb16⟩
      have HF16 : Hid (Far (fun k => (W4.heap.size ≤ k ∧ k < w5.heap.size) ∨ (W6.heap.size ≤ k ∧ k < w7.heap.size)) W8 w16) := HF15.out.trans (Far.below hb16)
      have HI16 : Hid (In (Soft w16) w16 (mkd 1 T) M5) := (HI15.out.below hb16).mono (fun k hk => hk.below hb16)
      have HI6 : Hid (In (Soft w16) w16 S M6) := hin6.mono (fun k hk => hk.2)
      clear hin6 hb16 a0 a1 a2
      go_wp2_with fail
      refine (HIM9.out M6 w16 HF16.out HI6.out).mono ?_
      rintro e w17 ⟨M7, rfl, hown7, hb17⟩
      obtain ⟨h1, h2, h3, h4, hv7⟩ := hown7.any.value'
      obtain ⟨W18, hW18⟩ : ∃ W18, W18 = w17.alloc (.cells #[.int .i64 T.kind, .slice h1 T.n h2, .slice h3 T.m h4] 26) := ⟨_, rfl⟩
      have hb18 : Below w17.heap.size w17 W18 := by rw [hW18]; exact below_new _ _
      have HF18 : Hid (Far (fun k => (W4.heap.size ≤ k ∧ k < w5.heap.size) ∨ (W6.heap.size ≤ k ∧ k < w7.heap.size)) W8 W18) := (HF16.out.trans (Far.below hb17)).trans (Far.below hb18)
      have HI18 : Hid (In (Soft W18) W18 (mkd 1 T) M5) := ((HI16.out.below hb17).below hb18).mono (fun k hk => (hk.below hb17).below hb18)
      have HE18 : Hid (Calls Tryd.prog 33 #[.agg #[.int .i64 T.kind, .slice h1 T.n h2, .slice h3 T.m h4], .agg #[.int .i64 T.kind, .slice s1 T.n s2, .slice s3 T.m s4]] W18 fun e w' => e = .returned (.bool true) ∧ Below W18.heap.size W18 w') := by
        have hh := eqRex_big T M7 M0 W18 (hown7.any.below hb18) (HT0.out W18 HF18.out) (by omega)
        rwa [hv7, HV0.out] at hh
      obtain ⟨c0, c1, c2⟩ := HC4.out W18 HF18.out
      rw [hW18] at c0 c1 c2
      rw [hv7]
      clear hv7 hown7 hb17 hb18
      go_wp2_with fail
      rw [← hW18]
      clear hW18 c0 c1 c2
      refine HE18.out.mono ?_
      rintro e w19 ⟨rfl, hb19⟩
      have HF19 : Hid (Far (fun k => (W4.heap.size ≤ k ∧ k < w5.heap.size) ∨ (W6.heap.size ≤ k ∧ k < w7.heap.size)) W8 w19) := HF18.out.trans (Far.below hb19)
      have HI19 : Hid (In (Soft w19) w19 (mkd 1 T) M5) := (HI18.out.below hb19).mono (fun k hk => hk.below hb19)
      obtain ⟨f0, f1, f2⟩ := HC6.out w19 HF19.out
      clear hb19
      go_wp2_with fail
      refine (HHK5.out w19 HI19.out).mono ?_
      rintro e w20 ⟨rfl, hb20⟩
      have HF20 : Hid (Far (fun k => (W4.heap.size ≤ k ∧ k < w5.heap.size) ∨ (W6.heap.size ≤ k ∧ k < w7.heap.size)) W8 w20) := HF19.out.trans (Far.below hb20)
      clear hb20
      go_wp2_with fail
      go_ret
      exact ⟨rfl, HFT.out w20 HF20.out⟩

set_option maxRecDepth 100000 in
set_option maxHeartbeats 8000000 in
theorem lawNormNot (S : Sh) (M : Mx) (w : World) (t : TypeId) (ea : Addr) (hE : Err w t ea) (hT : In AnyB w S M) :
    Calls Tryd.prog 15 #[vx S M] w fun e w' => e = .returned (.bool true) ∧ Below w.heap.size w w' := by
  obtain ⟨a, c, a', c', hv⟩ := hT.value'
  have HZ : Hid (∀ w1, Below w.heap.size w w1 → Calls Tryd.prog 30 #[vx S M, .int .i64 1048576] w1 fun e w' => e = .returned (.int .i64 (leftOf 1048576 (cnt S))) ∧ Below w1.heap.size w1 w') := fun w1 hb => szRex_any S M 1048576 w1 (hT.below hb) (by omega) (by omega)
  have hb0 : Below w.heap.size w (w.alloc (.cells #[.int .i64 S.kind, .slice a S.n c, .slice a' S.m c'] 46)) := below_new _ _
  by_cases hc : 1048576 < cnt S
  · rw [leftOf_lt' hc] at HZ
    rw [hv] at HZ ⊢
    clear hv
    go_enter Tryd.func15, Tryd.ntmps15
    go_wp2_with fail
    refine (HZ.out _ hb0).mono ?_
    rintro e w1 ⟨rfl, hb1⟩
    go_wp2_with fail
    go_ret
    exact ⟨rfl, hb0.trans (hb1.mono hb0.size)⟩
  · rw [show leftOf 1048576 (cnt S) = 1048576 - (cnt S : Int) from leftOf_pos (by omega)] at HZ
    have hcnt : cnt S ≤ 1048576 := by omega
    obtain ⟨T, hTT⟩ : ∃ T, normR notR S = T := ⟨_, rfl⟩
    have hcT : cnt T ≤ 1048577 := by rw [← hTT]; exact normR_cnt (fun hf => notR_cnt S (form_pos S hf)) hcnt
    have HTO : Hid (∀ w1, Below w.heap.size w w1 → Calls Tryd.prog 31 #[vx S M] w1 (ToRes S w1)) := fun w1 hb => toRex_any S M w1 (hT.below hb) hcnt
    have HSP : Hid (∀ M1 w1, In AnyB w1 S M1 → Calls Tryd.prog 48 #[vx S M1] w1 (OwnRes T w1)) := fun M1 w1 h => by rw [← hTT]; exact specNormNot_any S M1 w1 h hcnt
    have HIM : Hid (∀ M1 w1, Err w1 t ea → In (Soft w1) w1 S M1 → Calls Tryd.prog 49 #[vx S M1] w1 (OwnRes T w1)) := fun M1 w1 he h => by rw [← hTT]; exact implNormNot_any S M1 w1 t ea he h hcnt
    have HEQT : Hid (∀ M1 M2 w1, In AnyB w1 T M1 → In AnyB w1 T M2 → Calls Tryd.prog 33 #[vx T M1, vx T M2] w1 fun e w' => e = .returned (.bool true) ∧ Below w1.heap.size w1 w') := fun M1 M2 w1 h1 h2 => eqRex_big T M1 M2 w1 h1 h2 (by omega)
    have HEQS : Hid (∀ M1 M2 w1, In AnyB w1 S M1 → In AnyB w1 S M2 → Calls Tryd.prog 33 #[vx S M1, vx S M2] w1 fun e w' => e = .returned (.bool true) ∧ Below w1.heap.size w1 w') := fun M1 M2 w1 h1 h2 => eqRex_big S M1 M2 w1 h1 h2 (by omega)
    have HMS : Hid (∀ (lo hi : Nat) M1 w1, In (Mine lo hi w1) w1 S M1 → Calls Tryd.prog 39 #[vx S M1, .int .i64 1] w1 fun e w' => e = .returned (.int .i64 (1 + (mk S : Nat))) ∧ Marks lo hi w1 w') := fun lo hi M1 w1 h => markRex_any lo hi S M1 w1 h hcnt
    have HMT : Hid (∀ M1 w1, In (Soft w1) w1 T M1 → (bl T M1).Nodup → Calls Tryd.prog 39 #[vx T M1, .int .i64 1] w1 fun e w' => e = .returned (.int .i64 (1 + (mk T : Nat))) ∧ In (Soft w') w' (mkd 1 T) M1 ∧ Turn (· ∈ bl T M1) w1 w') := fun M1 w1 h hn => markRex_own T M1 w1 h hn (by omega)
    have HHT : Hid (∀ M1 w1 kd, In (Soft w1) w1 (mkd 1 T) M1 → Calls Tryd.prog 45 #[.agg #[.int .i64 kd, M1.sv, M1.kv], .int .i64 1] w1 fun e w' => e = .returned (.int .i64 (1 + (mk T : Nat))) ∧ Below w1.heap.size w1 w') := fun M1 w1 kd h => heldRex_own T M1 w1 h (by omega) kd
    have hmS := mk_le S
    have hmT := mk_le T
    obtain ⟨z, hz⟩ : ∃ z : Nat, cnt S = z := ⟨_, rfl⟩
    obtain ⟨ms, hms⟩ : ∃ ms : Nat, mk S = ms := ⟨_, rfl⟩
    obtain ⟨mt, hmt⟩ : ∃ mt : Nat, mk T = mt := ⟨_, rfl⟩
    rw [hms] at HMS hmS
    rw [hmt] at HMT HHT hmT
    rw [hz] at HZ hmS
    have hz0 : ¬ 1048576 - (z : Int) < 0 := by omega
    have hms0 : ¬ (1 + (ms : Int) < 0) := by omega
    have hmt0 : ¬ (1 + (mt : Int) < 0) := by omega
    have hmtt : ((1 + (mt : Int)) != (1 + (mt : Int))) = false := by simp
    have HE : Hid (Err w t ea) := hE
    rw [hv] at HZ HTO ⊢
    clear hv hz hms hmt hcnt hc hT hE hTT
    go_enter Tryd.func15, Tryd.ntmps15
    go_wp2_with fail
    refine (HZ.out _ hb0).mono ?_
    rintro e w1 ⟨rfl, hb1⟩
    have HB1 : Hid (Below w.heap.size w w1) := hb0.trans (hb1.mono hb0.size)
    have a0 : w1.cell? ⟨w.heap.size, 0, none⟩ = some (.int .i64 S.kind) := (hb1.cell (p := ⟨w.heap.size, 0, none⟩) (by simp)).trans (by simp [go_sem])
    have a1 : w1.cell? ⟨w.heap.size, 1, none⟩ = some (.slice a S.n c) := (hb1.cell (p := ⟨w.heap.size, 1, none⟩) (by simp)).trans (by simp [go_sem])
    have a2 : w1.cell? ⟨w.heap.size, 2, none⟩ = some (.slice a' S.m c') := (hb1.cell (p := ⟨w.heap.size, 2, none⟩) (by simp)).trans (by simp [go_sem])
    have hlt1 : w.heap.size < w1.heap.size := World.block_lt_of_cell? _ _ a0
    clear hb1
    have HA1 : Hid (∀ V, Below w1.heap.size w1 V → V.cell? ⟨w.heap.size, 0, none⟩ = some (.int .i64 S.kind) ∧ V.cell? ⟨w.heap.size, 1, none⟩ = some (.slice a S.n c) ∧ V.cell? ⟨w.heap.size, 2, none⟩ = some (.slice a' S.m c')) := fun V hb =>
      ⟨(hb.cell (p := ⟨w.heap.size, 0, none⟩) hlt1).trans a0, (hb.cell (p := ⟨w.heap.size, 1, none⟩) hlt1).trans a1, (hb.cell (p := ⟨w.heap.size, 2, none⟩) hlt1).trans a2⟩
    go_wp2_with fail
    refine (HTO.out _ HB1.out).mono ?_
    rintro e w2 ⟨M1, rfl, hin1, hb2⟩
    have HI1 : Hid (In AnyB w2 S M1) := hin1.mono (fun _ _ => trivial)
    have HB12 : Hid (Below w1.heap.size w1 w2) := hb2
    clear a0 a1 a2 hin1 hb2
    go_wp2_with fail
    refine (HSP.out M1 w2 HI1.out).mono ?_
    rintro e w3 ⟨M0, rfl, hown0, hb3⟩
    obtain ⟨s1, s2, s3, s4, hv0⟩ := hown0.any.value'
    have HV0 : Hid (vx T M0 = .agg #[.int .i64 T.kind, .slice s1 T.n s2, .slice s3 T.m s4]) := hv0
    have HO0 : Hid (In (· < w3.heap.size) w3 T M0) := hown0.1.mono (fun k hk => hk.2.lt)
    have HB13 : Hid (Below w1.heap.size w1 w3) := HB12.out.trans (hb3.mono HB12.out.size)
    obtain ⟨W4, hW4⟩ : ∃ W4, W4 = w3.alloc (.cells #[.int .i64 T.kind, .slice s1 T.n s2, .slice s3 T.m s4] 26) := ⟨_, rfl⟩
    have hb4 : Below w3.heap.size w3 W4 := by rw [hW4]; exact below_new _ _
    have hs4 : W4.heap.size = w3.heap.size + 1 := by rw [hW4]; exact size_new _ _
    have HX4 : Hid (W4.cell? ⟨w3.heap.size, 0, none⟩ = some (.int .i64 T.kind) ∧ W4.cell? ⟨w3.heap.size, 1, none⟩ = some (.slice s1 T.n s2) ∧ W4.cell? ⟨w3.heap.size, 2, none⟩ = some (.slice s3 T.m s4)) := by rw [hW4]; exact ⟨by simp [go_sem], by simp [go_sem], by simp [go_sem]⟩
    have HB34 : Hid (Below w3.heap.size w3 W4) := hb4
    have HB14 : Hid (Below w1.heap.size w1 W4) := HB13.out.trans (hb4.mono HB13.out.size)
    have HB04 : Hid (Below w.heap.size w W4) := HB1.out.trans (HB14.out.mono HB1.out.size)
    have hs34 : w1.heap.size ≤ w3.heap.size := HB13.out.size
    have b0 := (HA1.out W4 HB14.out).1
    have b1 := (HA1.out W4 HB14.out).2.1
    have b2 := (HA1.out W4 HB14.out).2.2
    rw [hW4] at b0 b1 b2
    rw [hv0]
    clear hv0 hown0 hb3
    go_wp2_with fail
    rw [← hW4]
    refine (HTO.out _ HB04.out).mono ?_
    rintro e w5 ⟨M2, rfl, hin2, hb5⟩
    obtain ⟨u1, u2, u3, u4, hv2⟩ := hin2.value'
    have HV2 : Hid (vx S M2 = .agg #[.int .i64 S.kind, .slice u1 S.n u2, .slice u3 S.m u4]) := hv2
    have HI2 : Hid (In (fun k => W4.heap.size ≤ k ∧ Soft w5 k) w5 S M2) := hin2
    have HB45 : Hid (Below W4.heap.size W4 w5) := hb5
    have hs45 : W4.heap.size ≤ w5.heap.size := hb5.size
    obtain ⟨W6, hW6⟩ : ∃ W6, W6 = w5.alloc (.cells #[.int .i64 S.kind, .slice u1 S.n u2, .slice u3 S.m u4] 26) := ⟨_, rfl⟩
    have hb6 : Below w5.heap.size w5 W6 := by rw [hW6]; exact below_new _ _
    have hs6 : W6.heap.size = w5.heap.size + 1 := by rw [hW6]; exact size_new _ _
    have HX6 : Hid (W6.cell? ⟨w5.heap.size, 0, none⟩ = some (.int .i64 S.kind) ∧ W6.cell? ⟨w5.heap.size, 1, none⟩ = some (.slice u1 S.n u2) ∧ W6.cell? ⟨w5.heap.size, 2, none⟩ = some (.slice u3 S.m u4)) := by rw [hW6]; exact ⟨by simp [go_sem], by simp [go_sem], by simp [go_sem]⟩
    have HB46 : Hid (Below W4.heap.size W4 W6) := HB45.out.trans (hb6.mono HB45.out.size)
    have HB56 : Hid (Below w5.heap.size w5 W6) := hb6
    have HB06 : Hid (Below w.heap.size w W6) := HB04.out.trans (HB46.out.mono HB04.out.size)
    have HIM6 : Hid (Calls Tryd.prog 49 #[.agg #[.int .i64 S.kind, .slice u1 S.n u2, .slice u3 S.m u4]] W6 (OwnRes T W6)) := by
      have h := HIM.out M2 W6 (HE.out.below HB06.out) ((hin2.below hb6).mono (fun k hk => hk.2.below hb6))
      rwa [hv2] at h
    rw [hv2]
    clear hv2 hin2 hb5 hW4 b0 b1 b2 hb4
    go_wp2_with fail
    rw [← hW6]
    clear hW6
    refine HIM6.out.mono ?_
    rintro e w7 ⟨M5, rfl, hown5, hb7⟩
    obtain ⟨g1, g2, g3, g4, hv5⟩ := hown5.any.value'
    obtain ⟨_, _, _, _, _, _, _, _, es5, _, _, _, ek5, _⟩ := hown5.1.parts
    have HV5 : Hid (vx T M5 = .agg #[.int .i64 T.kind, .slice g1 T.n g2, .slice g3 T.m g4]) := hv5
    have HO5 : Hid (Own W6.heap.size w7 T M5) := hown5
    have HB67 : Hid (Below W6.heap.size W6 w7) := hb7
    have hs67 : W6.heap.size ≤ w7.heap.size := hb7.size
    obtain ⟨W8, hW8⟩ : ∃ W8, W8 = w7.alloc (.cells #[.int .i64 T.kind, .slice g1 T.n g2, .slice g3 T.m g4] 26) := ⟨_, rfl⟩
    have hb8 : Below w7.heap.size w7 W8 := by rw [hW8]; exact below_new _ _
    have hs8 : W8.heap.size = w7.heap.size + 1 := by rw [hW8]; exact size_new _ _
    have HX8 : Hid (W8.cell? ⟨w7.heap.size, 0, none⟩ = some (.int .i64 T.kind) ∧ W8.cell? ⟨w7.heap.size, 1, none⟩ = some (.slice g1 T.n g2) ∧ W8.cell? ⟨w7.heap.size, 2, none⟩ = some (.slice g3 T.m g4)) := by rw [hW8]; exact ⟨by simp [go_sem], by simp [go_sem], by simp [go_sem]⟩
    have HB68 : Hid (Below W6.heap.size W6 W8) := HB67.out.trans (hb8.mono HB67.out.size)
    have HB48 : Hid (Below W4.heap.size W4 W8) := HB46.out.trans (HB68.out.mono HB46.out.size)
    have HB18 : Hid (Below w1.heap.size w1 W8) := HB14.out.trans (HB48.out.mono HB14.out.size)
    have HB08 : Hid (Below w.heap.size w W8) := HB04.out.trans (HB48.out.mono HB04.out.size)
    have HO8 : Hid (Own W6.heap.size W8 T M5 ∧ ∀ x ∈ bl T M5, W6.heap.size ≤ x ∧ x < w7.heap.size) := ⟨hown5.below hb8, fun x hx => ⟨(hown5.1.bl_mem x hx).1, (hown5.1.bl_mem x hx).2.lt⟩⟩
    -- what stays
    have HFT : Hid (∀ V, Far (fun k => (W4.heap.size ≤ k ∧ k < w5.heap.size) ∨ (W6.heap.size ≤ k ∧ k < w7.heap.size)) W8 V → Below w.heap.size w V) := fun V hf => HB08.out.trans ((hf.toBelow (n := w.heap.size) (fun k hk => by omega) (by omega)))
    have HCA : Hid (∀ V, Far (fun k => (W4.heap.size ≤ k ∧ k < w5.heap.size) ∨ (W6.heap.size ≤ k ∧ k < w7.heap.size)) W8 V → V.cell? ⟨w.heap.size, 0, none⟩ = some (.int .i64 S.kind) ∧ V.cell? ⟨w.heap.size, 1, none⟩ = some (.slice a S.n c) ∧ V.cell? ⟨w.heap.size, 2, none⟩ = some (.slice a' S.m c')) := fun V hf => by
      obtain ⟨p0, p1, p2⟩ := HA1.out W8 HB18.out
      exact ⟨hf.cell p0 (by omega), hf.cell p1 (by omega), hf.cell p2 (by omega)⟩
    have HC4 : Hid (∀ V, Far (fun k => (W4.heap.size ≤ k ∧ k < w5.heap.size) ∨ (W6.heap.size ≤ k ∧ k < w7.heap.size)) W8 V → V.cell? ⟨w3.heap.size, 0, none⟩ = some (.int .i64 T.kind) ∧ V.cell? ⟨w3.heap.size, 1, none⟩ = some (.slice s1 T.n s2) ∧ V.cell? ⟨w3.heap.size, 2, none⟩ = some (.slice s3 T.m s4)) := fun V hf => by
      obtain ⟨p0, p1, p2⟩ := HX4.out
      have k0 := (HB48.out.cell (p := ⟨w3.heap.size, 0, none⟩) (by show w3.heap.size < _; omega)).trans p0
      have k1 := (HB48.out.cell (p := ⟨w3.heap.size, 1, none⟩) (by show w3.heap.size < _; omega)).trans p1
      have k2 := (HB48.out.cell (p := ⟨w3.heap.size, 2, none⟩) (by show w3.heap.size < _; omega)).trans p2
      exact ⟨hf.cell k0 (by omega), hf.cell k1 (by omega), hf.cell k2 (by omega)⟩
    have HC5 : Hid (∀ V, Far (fun k => (W4.heap.size ≤ k ∧ k < w5.heap.size) ∨ (W6.heap.size ≤ k ∧ k < w7.heap.size)) W8 V → V.cell? ⟨w5.heap.size, 0, none⟩ = some (.int .i64 S.kind) ∧ V.cell? ⟨w5.heap.size, 1, none⟩ = some (.slice u1 S.n u2) ∧ V.cell? ⟨w5.heap.size, 2, none⟩ = some (.slice u3 S.m u4)) := fun V hf => by
      obtain ⟨p0, p1, p2⟩ := HX6.out
      have k0 := (HB68.out.cell (p := ⟨w5.heap.size, 0, none⟩) (by show w5.heap.size < _; omega)).trans p0
      have k1 := (HB68.out.cell (p := ⟨w5.heap.size, 1, none⟩) (by show w5.heap.size < _; omega)).trans p1
      have k2 := (HB68.out.cell (p := ⟨w5.heap.size, 2, none⟩) (by show w5.heap.size < _; omega)).trans p2
      exact ⟨hf.cell k0 (by omega), hf.cell k1 (by omega), hf.cell k2 (by omega)⟩
    have HC6 : Hid (∀ V, Far (fun k => (W4.heap.size ≤ k ∧ k < w5.heap.size) ∨ (W6.heap.size ≤ k ∧ k < w7.heap.size)) W8 V → V.cell? ⟨w7.heap.size, 0, none⟩ = some (.int .i64 T.kind) ∧ V.cell? ⟨w7.heap.size, 1, none⟩ = some (.slice g1 T.n g2) ∧ V.cell? ⟨w7.heap.size, 2, none⟩ = some (.slice g3 T.m g4)) := fun V hf => by
      obtain ⟨p0, p1, p2⟩ := HX8.out
      exact ⟨hf.cell p0 (by omega), hf.cell p1 (by omega), hf.cell p2 (by omega)⟩
    have HT0 : Hid (∀ V, Far (fun k => (W4.heap.size ≤ k ∧ k < w5.heap.size) ∨ (W6.heap.size ≤ k ∧ k < w7.heap.size)) W8 V → In AnyB V T M0) := fun V hf => by
      have h3 : In (· < w3.heap.size) W8 T M0 := HO0.out.keep (fun k hk _ => (HB48.out.block k (by omega)).trans (by
        have hb34 := HB34.out
        exact hb34.block k hk))
      exact (h3.keep (fun k hk hlt => hf.far k hlt (by omega))).mono (fun _ _ => trivial)
    have HFR : Hid (Far (fun k => (W4.heap.size ≤ k ∧ k < w5.heap.size) ∨ (W6.heap.size ≤ k ∧ k < w7.heap.size)) W8 W8) := Far.below (Below.refl _ _)
    have HEQ : Hid (∀ V, Far (fun k => (W4.heap.size ≤ k ∧ k < w5.heap.size) ∨ (W6.heap.size ≤ k ∧ k < w7.heap.size)) W8 V → In AnyB V T M5 → Calls Tryd.prog 33 #[.agg #[.int .i64 T.kind, .slice g1 T.n g2, .slice g3 T.m g4], .agg #[.int .i64 T.kind, .slice s1 T.n s2, .slice s3 T.m s4]] V fun e w' => e = .returned (.bool true) ∧ Below V.heap.size V w') := fun V hf h => by
      have hh := HEQT.out M5 M0 V h (HT0.out V hf)
      rwa [HV5.out, HV0.out] at hh
    have HS2 : Hid (∀ V, Below W8.heap.size W8 V → In (Mine W4.heap.size w5.heap.size V) V S M2) := fun V hb => by
      have hb5V : Below w5.heap.size w5 V := (HB56.out.trans (HB68.out.mono HB56.out.size)).trans (hb.mono (by omega))
      exact (HI2.out.below hb5V).mono (fun k hk => ⟨hk.1, hk.2.lt, fun o => (hk.2.below hb5V).frozen o⟩)
    have HM2 : Hid (∀ V, Below W8.heap.size W8 V → Calls Tryd.prog 39 #[.agg #[.int .i64 S.kind, .slice u1 S.n u2, .slice u3 S.m u4], .int .i64 1] V fun e w' => e = .returned (.int .i64 (1 + (ms : Nat))) ∧ Marks W4.heap.size w5.heap.size V w') := fun V hb => by
      have hh := HMS.out W4.heap.size w5.heap.size M2 V (HS2.out V hb)
      rwa [HV2.out] at hh
    have HE2 : Hid (∀ M3 V, Below W8.heap.size W8 V → In AnyB V S M3 → Calls Tryd.prog 33 #[.agg #[.int .i64 S.kind, .slice u1 S.n u2, .slice u3 S.m u4], vx S M3] V fun e w' => e = .returned (.bool true) ∧ Below V.heap.size V w') := fun M3 V hb h => by
      have hh := HEQS.out M2 M3 V ((HS2.out V hb).mono (fun _ _ => trivial)) h
      rwa [HV2.out] at hh
    have HM5 : Hid (∀ V V', Below W8.heap.size W8 V → Marks W4.heap.size w5.heap.size V V' → Far (fun k => (W4.heap.size ≤ k ∧ k < w5.heap.size) ∨ (W6.heap.size ≤ k ∧ k < w7.heap.size)) W8 V' ∧ In (Soft V') V' T M5) := fun V V' hb hm => by
      refine ⟨(Far.below hb).trans (hm.toFar (fun k h1 h2 => .inl ⟨h1, h2⟩)), ?_⟩
      have h8 := HO8.out.1.below hb
      have hk : ∀ k, W6.heap.size ≤ k → k < V.heap.size → V'.heap[k]? = V.heap[k]? := fun k h1 h2 => hm.far k h2 (.inr (by omega))
      exact (h8.1.keep (fun k h1 h2 => hk k h1.1 h2)).mono (fun k h1 => h1.2.of_block (hk k h1.1 h1.2.lt))
    have HMK5 : Hid (∀ V, In (Soft V) V T M5 → Calls Tryd.prog 39 #[.agg #[.int .i64 T.kind, .slice g1 T.n g2, .slice g3 T.m g4], .int .i64 1] V fun e w' => e = .returned (.int .i64 (1 + (mt : Nat))) ∧ In (Soft w') w' (mkd 1 T) M5 ∧ Turn (· ∈ bl T M5) V w') := fun V h => by
      have hh := HMT.out M5 V h HO8.out.1.2
      rwa [HV5.out] at hh
    have HHK5 : Hid (∀ V, In (Soft V) V (mkd 1 T) M5 → Calls Tryd.prog 45 #[.agg #[.int .i64 T.kind, .slice g1 T.n g2, .slice g3 T.m g4], .int .i64 1] V fun e w' => e = .returned (.int .i64 (1 + (mt : Nat))) ∧ Below V.heap.size V w') := fun V h => by
      have hh := HHT.out M5 V T.kind h
      have e := HV5.out
      rw [vx] at e
      rwa [e] at hh
    have HIM9 : Hid (∀ M1 V, Far (fun k => (W4.heap.size ≤ k ∧ k < w5.heap.size) ∨ (W6.heap.size ≤ k ∧ k < w7.heap.size)) W8 V → In (Soft V) V S M1 → Calls Tryd.prog 49 #[vx S M1] V (OwnRes T V)) := fun M1 V hf h => HIM.out M1 V (HE.out.below (HFT.out V hf)) h
    have HI8 : Hid (In AnyB W8 T M5) := HO8.out.1.any
    obtain ⟨c0, c1, c2⟩ := HC4.out W8 HFR.out
    rw [hW8] at c0 c1 c2
    rw [hv5]
    clear hv5 hown5 hb7 es5 ek5 hb8 hb6 HEQT HEQS HMS HMT HHT HIM HSP HO0 HI2 HX4 HX6 HX8 HA1 HO5 HIM6
    go_wp2_with fail
    rw [← hW8]
    clear hW8 c0 c1 c2
    refine (HEQ.out W8 HFR.out HI8.out).mono ?_
    rintro e w9 ⟨rfl, hb9⟩
    have HB9 : Hid (Below W8.heap.size W8 w9) := hb9
    have HF9 : Hid (Far (fun k => (W4.heap.size ≤ k ∧ k < w5.heap.size) ∨ (W6.heap.size ≤ k ∧ k < w7.heap.size)) W8 w9) := Far.below hb9
    have HBw9 : Hid (Below w.heap.size w w9.drew) := (HFT.out w9 HF9.out).drew
    obtain ⟨a0, a1, a2⟩ := HCA.out w9 HF9.out
    obtain ⟨x0, x1, x2⟩ := HC5.out w9 HF9.out
    have l9 : w5.heap.size < w9.heap.size := World.block_lt_of_cell? _ _ x0
    clear hb9
    go_wp2_with fail
    go_region_with (first
      | (go_at_call 31; refine (HTO.out _ HBw9.out).mono ?_; rintro e w10 ⟨M3, rfl, hin3, hb10⟩; have hb10' : Below w9.heap.size w9 w10 := (Below.refl _ _).drew.trans hb10
         have p0 := (hb10'.cell (p := ⟨w5.heap.size, 0, none⟩) l9).trans x0
         have p1 := (hb10'.cell (p := ⟨w5.heap.size, 1, none⟩) l9).trans x1
         have p2 := (hb10'.cell (p := ⟨w5.heap.size, 2, none⟩) l9).trans x2)
      | (go_at_call 33; refine (HE2.out M3 _ (HB9.out.trans (hb10'.mono HB9.out.size)) (hin3.mono (fun _ _ => trivial))).mono ?_; rintro e w11 ⟨rfl, hb11⟩))
    all_goals
      have HB11 : Hid (Below W8.heap.size W8 w11) := (HB9.out.trans (hb10'.mono HB9.out.size)).trans (hb11.mono (Nat.le_trans HB9.out.size hb10'.size))
      obtain ⟨y0, y1, y2⟩ := HC5.out w11 (Far.below HB11.out)
      clear p0 p1 p2 x0 x1 x2 a0 a1 a2 hin3 hb10 hb10' hb11
      go_wp2_with fail
      refine (HM2.out w11 HB11.out).mono ?_
      rintro e w12 ⟨rfl, hm12⟩
      obtain ⟨hf12, hi12⟩ := HM5.out w11 w12 HB11.out hm12
      have HF12 : Hid (Far (fun k => (W4.heap.size ≤ k ∧ k < w5.heap.size) ∨ (W6.heap.size ≤ k ∧ k < w7.heap.size)) W8 w12) := hf12
      have HI12 : Hid (In (Soft w12) w12 T M5) := hi12
      obtain ⟨c0, c1, c2⟩ := HC4.out w12 hf12
      obtain ⟨d0, d1, d2⟩ := HC6.out w12 hf12
      clear hm12 hf12 hi12 y0 y1 y2
      go_wp2_with fail
      refine (HEQ.out w12 HF12.out (HI12.out.mono (fun _ _ => trivial))).mono ?_
      rintro e w13 ⟨rfl, hb13⟩
      have HF13 : Hid (Far (fun k => (W4.heap.size ≤ k ∧ k < w5.heap.size) ∨ (W6.heap.size ≤ k ∧ k < w7.heap.size)) W8 w13) := HF12.out.trans (Far.below hb13)
      have HI13 : Hid (In (Soft w13) w13 T M5) := (HI12.out.below hb13).mono (fun k hk => hk.below hb13)
      obtain ⟨e0, e1, e2⟩ := HC6.out w13 HF13.out
      clear hb13 c0 c1 c2 d0 d1 d2
      go_wp2_with fail
      refine (HMK5.out w13 HI13.out).mono ?_
      rintro e w14 ⟨rfl, hi14, ht14⟩
      have HF14 : Hid (Far (fun k => (W4.heap.size ≤ k ∧ k < w5.heap.size) ∨ (W6.heap.size ≤ k ∧ k < w7.heap.size)) W8 w14) := HF13.out.trans (ht14.toFar (fun k hk => .inr (HO8.out.2 k hk)))
      have HI14 : Hid (In (Soft w14) w14 (mkd 1 T) M5) := hi14
      obtain ⟨f0, f1, f2⟩ := HC6.out w14 HF14.out
      clear hi14 ht14 e0 e1 e2
      go_wp2_with fail
      refine (HHK5.out w14 HI14.out).mono ?_
      rintro e w15 ⟨rfl, hb15⟩
      have HF15 : Hid (Far (fun k => (W4.heap.size ≤ k ∧ k < w5.heap.size) ∨ (W6.heap.size ≤ k ∧ k < w7.heap.size)) W8 w15) := HF14.out.trans (Far.below hb15)
      have HI15 : Hid (In (Soft w15) w15 (mkd 1 T) M5) := (HI14.out.below hb15).mono (fun k hk => hk.below hb15)
      obtain ⟨a0, a1, a2⟩ := HCA.out w15 HF15.out
      clear hb15 f0 f1 f2
      go_wp2_with fail
      refine (HTO.out w15 (HFT.out w15 HF15.out)).mono ?_
      rintro e w16 ⟨M6, rfl, hin6, hb16⟩
      have HF16 : Hid (Far (fun k => (W4.heap.size ≤ k ∧ k < w5.heap.size) ∨ (W6.heap.size ≤ k ∧ k < w7.heap.size)) W8 w16) := HF15.out.trans (Far.below hb16)
      have HI16 : Hid (In (Soft w16) w16 (mkd 1 T) M5) := (HI15.out.below hb16).mono (fun k hk => hk.below hb16)
      have HI6 : Hid (In (Soft w16) w16 S M6) := hin6.mono (fun k hk => hk.2)
      clear hin6 hb16 a0 a1 a2
      go_wp2_with fail
      refine (HIM9.out M6 w16 HF16.out HI6.out).mono ?_
      rintro e w17 ⟨M7, rfl, hown7, hb17⟩
      obtain ⟨h1, h2, h3, h4, hv7⟩ := hown7.any.value'
      obtain ⟨W18, hW18⟩ : ∃ W18, W18 = w17.alloc (.cells #[.int .i64 T.kind, .slice h1 T.n h2, .slice h3 T.m h4] 26) := ⟨_, rfl⟩
      have hb18 : Below w17.heap.size w17 W18 := by rw [hW18]; exact below_new _ _
      have HF18 : Hid (Far (fun k => (W4.heap.size ≤ k ∧ k < w5.heap.size) ∨ (W6.heap.size ≤ k ∧ k < w7.heap.size)) W8 W18) := (HF16.out.trans (Far.below hb17)).trans (Far.below hb18)
      have HI18 : Hid (In (Soft W18) W18 (mkd 1 T) M5) := ((HI16.out.below hb17).below hb18).mono (fun k hk => (hk.below hb17).below hb18)
      have HE18 : Hid (Calls Tryd.prog 33 #[.agg #[.int .i64 T.kind, .slice h1 T.n h2, .slice h3 T.m h4], .agg #[.int .i64 T.kind, .slice s1 T.n s2, .slice s3 T.m s4]] W18 fun e w' => e = .returned (.bool true) ∧ Below W18.heap.size W18 w') := by
        have hh := eqRex_big T M7 M0 W18 (hown7.any.below hb18) (HT0.out W18 HF18.out) (by omega)
        rwa [hv7, HV0.out] at hh
      obtain ⟨c0, c1, c2⟩ := HC4.out W18 HF18.out
      rw [hW18] at c0 c1 c2
      rw [hv7]
      clear hv7 hown7 hb17 hb18
      go_wp2_with fail
      rw [← hW18]
      clear hW18 c0 c1 c2
      refine HE18.out.mono ?_
      rintro e w19 ⟨rfl, hb19⟩
      have HF19 : Hid (Far (fun k => (W4.heap.size ≤ k ∧ k < w5.heap.size) ∨ (W6.heap.size ≤ k ∧ k < w7.heap.size)) W8 w19) := HF18.out.trans (Far.below hb19)
      have HI19 : Hid (In (Soft w19) w19 (mkd 1 T) M5) := (HI18.out.below hb19).mono (fun k hk => hk.below hb19)
      obtain ⟨f0, f1, f2⟩ := HC6.out w19 HF19.out
      clear hb19
      go_wp2_with fail
      refine (HHK5.out w19 HI19.out).mono ?_
      rintro e w20 ⟨rfl, hb20⟩
      have HF20 : Hid (Far (fun k => (W4.heap.size ≤ k ∧ k < w5.heap.size) ∨ (W6.heap.size ≤ k ∧ k < w7.heap.size)) W8 w20) := HF19.out.trans (Far.below hb20)
      clear hb20
      go_wp2_with fail
      go_ret
      exact ⟨rfl, HFT.out w20 HF20.out⟩
end Go.Proofs.YtbnllbhlmnkgcaaDoor
