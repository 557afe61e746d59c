/- What a Rex comes to by the rules of chapter 4 that look at it alone, and the walks of the model's l4No, l4Star, l4Not, l4Deep, NormStar, NormNot. -/
import Derived.Test.YtbnllbhlmnkgcaaDoorNd
import Derived.Test.YtbnllbhlmnkgcaaDoorTf
namespace Go.Proofs.YtbnllbhlmnkgcaaDoor
open Go.RowKit
set_option linter.unusedVariables false
set_option linter.unusedSimpArgs false

/-- a set of no bytes -/
def noB (S : Sh) : Bool := S.kind == 1 && S.n == 0
/-- one of that kind, with one kid -/
def oneS (k : Int) (S : Sh) : Sh := .mk k 0 (fun _ => 0) (fun _ => 0) 1 (fun _ => S)
/-- one of that kind, without set and kids -/
def zeroS (k : Int) : Sh := .mk k 0 (fun _ => 0) (fun _ => 0) 0 (fun _ => leafS 0 0 (fun _ => 0) (fun _ => 0))
def starR (S : Sh) : Sh := if S.kind = 5 then S else if S.kind = 2 ∨ noB S = true then zeroS 2 else oneS 5 S
def notR (S : Sh) : Sh := if S.kind = 7 then S.kidAt 0 else oneS 7 S
theorem oneS_cnt (k : Int) (S : Sh) : cnt (oneS k S) = 1 + cnt S := by simp [oneS, cnt_mk, sumN]
theorem zeroS_cnt (k : Int) : cnt (zeroS k) = 0 := by simp [zeroS, cnt_mk, sumN]
theorem cnt_at (S : Sh) : cnt S = S.n + S.m + sumN (fun i => cnt (S.kidAt i)) S.m := by
  obtain ⟨kind, n, L, H, m, kids⟩ := S
  simp only [cnt]
  rw [sumN_congr (g := fun i => cnt ((Sh.node kind n L H m kids).kidAt i)) (fun i hi => by rw [dif_pos hi, Sh.kidAt, dif_pos (show i < (Sh.node kind n L H m kids).m from hi)])]
theorem kid_cnt (S : Sh) {i : Nat} (hi : i < S.m) : cnt (S.kidAt i) + 1 ≤ cnt S := by
  have := sumN_at (f := fun i => cnt (S.kidAt i)) hi
  rw [cnt_at S]
  omega
theorem starR_cnt (S : Sh) : cnt (starR S) ≤ 1 + cnt S := by
  unfold starR
  split
  · omega
  · split
    · rw [zeroS_cnt]; omega
    · rw [oneS_cnt]; omega
theorem notR_cnt (S : Sh) (h : S.kind = 7 → 0 < S.m) : cnt (notR S) ≤ 1 + cnt S := by
  unfold notR
  split
  · rename_i e
    have := kid_cnt S (h e)
    omega
  · rw [oneS_cnt]; omega

/-- one without set and kids lies anywhere -/
theorem zero_in (B : Nat → Prop) (w : World) (k : Int) : In B w (zeroS k) Mx.no :=
  ⟨none, 0, 0, 0, none, 0, 0, 0, rfl, fun h => absurd h (Nat.lt_irrefl _), fun i hi => absurd hi (Nat.not_lt_zero _), by omega, rfl, fun h => absurd h (Nat.lt_irrefl _), by omega, fun i hi => absurd hi (Nat.not_lt_zero _)⟩
theorem zero_own (lo : Nat) (w : World) (k : Int) : Own lo w (zeroS k) Mx.no := ⟨zero_in _ w k, by rw [zeroS, bl_mk]; simp⟩
/-- where one with one kid lies -/
def oneM (b : Nat) (M : Mx) : Mx := .mk (.slice none 0 0) (.slice (some ⟨b, 0, none⟩) 1 1) (fun _ => M)
theorem one_in {w : World} {S : Sh} {M : Mx} {b : Nat} (k : Int) (h : In AnyB w S M) (hk : Kid w b 0 S M) : In AnyB w (oneS k S) (oneM b M) := by
  refine ⟨none, 0, 0, 0, some ⟨b, 0, none⟩, b, 0, 1, rfl, fun h => absurd h (Nat.lt_irrefl _), fun i hi => absurd hi (Nat.not_lt_zero _), by omega, rfl, fun _ => ⟨rfl, trivial⟩, by omega, fun i hi => ?_⟩
  obtain rfl : i = 0 := by omega
  exact ⟨hk, h⟩

theorem below_two (w : World) (o1 o2 : Obj) : Below w.heap.size w ((w.alloc o1).alloc o2) := (below_new _ _).trans ((below_new _ _).mono (by rw [size_new]; omega))
theorem beq0 (n : Nat) : ((n : Int) == 0) = (n == 0) := by
  rw [Bool.eq_iff_iff]; simp
theorem In.value' {B : Nat → Prop} {w : World} {S : Sh} {M : Mx} (h : In B w S M) : ∃ (a : Option Addr) (c : Nat) (a' : Option Addr) (c' : Nat), vx S M = .agg #[.int .i64 S.kind, .slice a S.n c, .slice a' S.m c'] := by
  obtain ⟨a, b, off, cap, a', b', off', cap', e1, _, _, _, e2, _⟩ := h.parts
  exact ⟨a, cap, a', cap', by rw [vx, e1, e2]⟩

set_option maxHeartbeats 1000000 in
theorem l4No_any (S : Sh) (M : Mx) (w : World) (h : In AnyB w S M) : Calls Tryd.prog 136 #[vx S M] w fun e w' => e = .returned (.bool (noB S)) ∧ Below w.heap.size w w' := by
  obtain ⟨a, c, a', c', hv⟩ := h.value'
  rw [hv]
  have HR : Hid (noB S = (S.kind == 1 && S.n == 0)) := rfl
  obtain ⟨kd, hkd⟩ : ∃ kd, S.kind = kd := ⟨_, rfl⟩
  obtain ⟨n, hn⟩ : ∃ n, S.n = n := ⟨_, rfl⟩
  obtain ⟨m, hm⟩ : ∃ m, S.m = m := ⟨_, rfl⟩
  rw [hkd, hn] at HR
  rw [hkd, hn, hm]
  clear hkd hn hm hv h
  by_cases h1 : kd = 1
  · have hk1 : (kd == 1) = true := by simpa using h1
    have H1 : Hid (kd = 1) := h1
    clear h1
    go_enter Tryd.func136, Tryd.ntmps136
    go_wp2_with fail
    go_ret
    exact ⟨ret_bool (by rw [HR.out, H1.out, beq0]; simp), (Below.refl _ _).alloc (Nat.le_refl _) _⟩
  · have hk1 : (kd == 1) = false := by simpa using h1
    go_enter Tryd.func136, Tryd.ntmps136
    go_wp2_with fail
    go_ret
    exact ⟨ret_bool (by rw [HR.out, hk1]; rfl), (Below.refl _ _).alloc (Nat.le_refl _) _⟩

set_option maxHeartbeats 1000000 in
theorem l4Deep_any (S : Sh) (M : Mx) (w : World) (h : In AnyB w S M) (hcnt : cnt S ≤ 1048576) : Calls Tryd.prog 94 #[vx S M] w fun e w' => e = .returned (.bool (formB 60 S)) ∧ Below w.heap.size w w' := by
  have H1 : Hid (∀ w1, Below w.heap.size w w1 → Calls Tryd.prog 59 #[vx S M, .int .i64 60] w1 fun e w' => e = .returned (.bool (formB 60 S)) ∧ Below w1.heap.size w1 w') := fun w1 hb => l2Form_any 60 S M 60 w1 (h.below hb) hcnt rfl (by omega)
  obtain ⟨a, c, a', c', hv⟩ := h.value'
  rw [hv] at H1 ⊢
  obtain ⟨fb, hfb⟩ : ∃ fb, formB 60 S = fb := ⟨_, rfl⟩
  rw [hfb] at H1 ⊢
  have hb0 : Below w.heap.size w (w.alloc (.cells #[.int .i64 S.kind, .slice a S.n c, .slice a' S.m c'] 26)) := below_new _ _
  clear hv hfb h
  go_enter Tryd.func94, Tryd.ntmps94
  go_wp2_with fail
  refine (H1.out _ hb0).mono ?_
  rintro e w1 ⟨rfl, hb1⟩
  go_wp2_with fail
  go_ret
  exact ⟨rfl, hb0.trans (hb1.mono hb0.size)⟩

set_option maxHeartbeats 2000000 in
theorem l4Star_any (S : Sh) (M : Mx) (w : World) (h : In AnyB w S M) : Calls Tryd.prog 101 #[vx S M] w (ShRes (starR S) w) := by
  have HNO : Hid (∀ w1, Below w.heap.size w w1 → Calls Tryd.prog 136 #[vx S M] w1 fun e w' => e = .returned (.bool (noB S)) ∧ Below w1.heap.size w1 w') := fun w1 hb => l4No_any S M w1 (h.below hb)
  obtain ⟨a, b, off, c, a', b', off', c', e1, _, _, _, e2, _⟩ := h.parts
  have hv : vx S M = .agg #[.int .i64 S.kind, .slice a S.n c, .slice a' S.m c'] := by rw [vx, e1, e2]
  have HV : Hid (vx S M = .agg #[.int .i64 S.kind, .slice a S.n c, .slice a' S.m c']) := hv
  have HE : Hid (M.sv = .slice a S.n c ∧ M.kv = .slice a' S.m c') := ⟨e1, e2⟩
  rw [hv] at HNO ⊢
  have HI : Hid (In AnyB w S M) := h
  obtain ⟨kd, hkd⟩ : ∃ kd, S.kind = kd := ⟨_, rfl⟩
  obtain ⟨nb, hnb⟩ : ∃ nb, noB S = nb := ⟨_, rfl⟩
  have HKD : Hid (S.kind = kd ∧ noB S = nb) := ⟨hkd, hnb⟩
  rw [hkd, hnb] at HNO
  rw [hkd] at HV ⊢
  obtain ⟨n, hn⟩ : ∃ n, S.n = n := ⟨_, rfl⟩
  obtain ⟨m, hm⟩ : ∃ m, S.m = m := ⟨_, rfl⟩
  rw [hn, hm] at HNO HV HE ⊢
  have hb0 : Below w.heap.size w ((w.alloc (.cells #[.int .i64 kd, .slice a n c, .slice a' m c'] 26)).alloc (.cells #[.int .i64 0, .slice none 0 0, .slice none 0 0] 26)) := (below_new _ _).trans ((below_new _ _).mono (by rw [size_new]; omega))
  clear hv h e1 e2 hkd hnb hn hm
  by_cases h5 : kd = 5
  · have hk5 : (kd == 5) = true := by simpa using h5
    have HR : Hid (starR S = S) := by rw [Hid, starR, HKD.out.1, if_pos h5]
    clear h5
    go_enter Tryd.func101, Tryd.ntmps101
    go_wp2_with fail
    refine bodyPost_ret (v := .agg #[.int .i64 kd, .slice a n c, .slice a' m c']) (by simp [results, Tryd.results101, go_sem]) rfl ?_
    rw [HR.out]
    exact ⟨M, by rw [HV.out], HI.out.below (below_two _ _ _), below_two _ _ _⟩
  · have hk5 : (kd == 5) = false := by simpa using h5
    have H5 : Hid (kd ≠ 5) := h5
    clear h5
    have HZ : Hid (kd = 2 ∨ nb = true → ∀ w', Below w.heap.size w w' → ShRes (starR S) w (.returned (.agg #[.int .i64 2, .slice none 0 0, .slice none 0 0])) w') := fun hz w' hb => by
      rw [starR, HKD.out.1, HKD.out.2, if_neg H5.out, if_pos hz]
      exact ⟨Mx.no, rfl, zero_in _ _ _, hb⟩
    have HO : Hid (kd ≠ 2 → nb = false → ∀ w' b, Below w.heap.size w w' → w'.cell? ⟨b, 0, none⟩ = some (.int .i64 kd) → w'.cell? ⟨b, 1, none⟩ = some (.slice a n c) → w'.cell? ⟨b, 2, none⟩ = some (.slice a' m c') → ShRes (starR S) w (.returned (.agg #[.int .i64 5, .slice none 0 0, .slice (some ⟨b, 0, none⟩) 1 1])) w') := fun h2 hz w' b hb c0 c1 c2 => by
      rw [starR, HKD.out.1, HKD.out.2, if_neg H5.out, if_neg (by simp [h2, hz])]
      exact ⟨oneM b M, rfl, one_in 5 (HI.out.below hb) ⟨by rw [HKD.out.1]; exact c0, by rw [HE.out.1]; exact c1, by rw [HE.out.2]; exact c2⟩, hb⟩
    by_cases h2 : kd = 2
    · have hk2 : (kd == 2) = true := by simpa using h2
      have H2 : Hid (kd = 2) := h2
      clear h2
      go_enter Tryd.func101, Tryd.ntmps101
      go_wp2_with fail
      refine bodyPost_ret (v := .agg #[.int .i64 2, .slice none 0 0, .slice none 0 0]) (by simp [results, Tryd.results101, go_sem]) rfl ?_
      exact HZ.out (.inl H2.out) _ (below_two _ _ _)
    · have hk2 : (kd == 2) = false := by simpa using h2
      have H2 : Hid (kd ≠ 2) := h2
      clear h2
      go_enter Tryd.func101, Tryd.ntmps101
      go_wp2_with fail
      refine (HNO.out _ hb0).mono ?_
      rintro e w1 ⟨rfl, hb1⟩
      have hB1 := hb0.trans (hb1.mono hb0.size)
      obtain ⟨hc1, hf1⟩ := bcell hb1
      have r0 : w1.cell? ⟨w.heap.size, 0, none⟩ = some (.int .i64 kd) := by rw [hc1 _ _ (by simp <;> omega)]; simp [go_sem]
      have r1 : w1.cell? ⟨w.heap.size, 1, none⟩ = some (.slice a n c) := by rw [hc1 _ _ (by simp <;> omega)]; simp [go_sem]
      have r2 : w1.cell? ⟨w.heap.size, 2, none⟩ = some (.slice a' m c') := by rw [hc1 _ _ (by simp <;> omega)]; simp [go_sem]
      have s0 : w1.cell? ⟨w.heap.size + 1, 0, none⟩ = some (.int .i64 0) := by rw [hc1 _ _ (by simp <;> omega)]; simp [go_sem]
      have s1 : w1.cell? ⟨w.heap.size + 1, 1, none⟩ = some (.slice none 0 0) := by rw [hc1 _ _ (by simp <;> omega)]; simp [go_sem]
      have s2 : w1.cell? ⟨w.heap.size + 1, 2, none⟩ = some (.slice none 0 0) := by rw [hc1 _ _ (by simp <;> omega)]; simp [go_sem]
      have sf : ∀ o, w1.frozen? ⟨w.heap.size + 1, o, none⟩ = false := fun o => by rw [hf1 _ _ (by simp <;> omega)]; simp [go_sem]
      have hsz : w.heap.size + 1 < w1.heap.size := World.block_lt_of_cell? _ _ s0
      have HB1 : Hid (Below w.heap.size w w1) := hB1
      clear hc1 hf1 hb1 hB1
      cases nb with
      | true =>
        go_wp2_with fail
        refine bodyPost_ret (v := .agg #[.int .i64 2, .slice none 0 0, .slice none 0 0]) (by simp [results, Tryd.results101, go_sem, s0, s1, s2]) rfl ?_
        exact HZ.out (.inr trivial) _ (((HB1.out.setCell (by simp) _).setCell (by simp) _).setCell (by simp) _)
      | false =>
        go_wp2_with fail
        refine bodyPost_ret (v := .agg #[.int .i64 5, .slice none 0 0, .slice (some ⟨w1.heap.size, 0, none⟩) 1 1]) (by simp [results, Tryd.results101, go_sem, s0, s1, s2, hsz]) rfl ?_
        have hne : w1.heap.size ≠ w.heap.size + 1 := by omega
        exact HO.out H2.out trivial _ w1.heap.size ((((HB1.out.setCell (by simp) _).setCell (by simp) _).setCell (by simp) _).alloc (by simp; omega) _) (by simp [go_sem, hne]) (by simp [go_sem, hne]) (by simp [go_sem, hne])

set_option maxHeartbeats 2000000 in
theorem l4Not_any (S : Sh) (M : Mx) (w : World) (h : In AnyB w S M) (hm0 : S.kind = 7 → 0 < S.m) : Calls Tryd.prog 103 #[vx S M] w (ShRes (notR S) w) := by
  obtain ⟨a, b, off, c, a', b', off', c', e1, _, _, _, e2, hma, hml, hkk⟩ := h.parts
  have hv : vx S M = .agg #[.int .i64 S.kind, .slice a S.n c, .slice a' S.m c'] := by rw [vx, e1, e2]
  rw [hv]
  have HV : Hid (vx S M = .agg #[.int .i64 S.kind, .slice a S.n c, .slice a' S.m c']) := hv
  have HI : Hid (In AnyB w S M) := h
  obtain ⟨kd, hkd⟩ : ∃ kd, S.kind = kd := ⟨_, rfl⟩
  have HKD : Hid (S.kind = kd) := hkd
  rw [hkd] at HV hm0 ⊢
  by_cases h7 : kd = 7
  · have hk7 : (kd == 7) = true := by simpa using h7
    have hpos : 0 < S.m := hm0 h7
    have HR : Hid (notR S = S.kidAt 0) := by rw [Hid, notR, HKD.out, if_pos h7]
    obtain ⟨k1, hin⟩ := hkk 0 hpos
    obtain ⟨ka, kc, ka', kc', hvk⟩ := hin.value'
    obtain ⟨c0, c1, c2⟩ := k1
    obtain ⟨x1, x2, x3, x4, x5, x6, x7, x8, f1, _, _, _, f2, _⟩ := hin.parts
    rw [f1] at c1
    rw [f2] at c2
    have HVK : Hid (vx (S.kidAt 0) (M.kid 0) = .agg #[.int .i64 (S.kidAt 0).kind, .slice x1 (S.kidAt 0).n x4, .slice x5 (S.kidAt 0).m x8]) := by rw [Hid, vx, f1, f2]
    have HIN : Hid (In AnyB w (S.kidAt 0) (M.kid 0)) := hin
    obtain ⟨ksk, hksk⟩ : ∃ ksk, (S.kidAt 0).kind = ksk := ⟨_, rfl⟩
    obtain ⟨ksn, hksn⟩ : ∃ ksn, (S.kidAt 0).n = ksn := ⟨_, rfl⟩
    obtain ⟨ksm, hksm⟩ : ∃ ksm, (S.kidAt 0).m = ksm := ⟨_, rfl⟩
    rw [hksk, hksn, hksm] at HVK
    rw [hksk] at c0
    rw [hksn] at c1
    rw [hksm] at c2
    simp only [Nat.zero_mul, Nat.add_zero] at c0 c1 c2
    obtain ⟨rfl, _⟩ := hma hpos
    obtain ⟨n, hn⟩ : ∃ n, S.n = n := ⟨_, rfl⟩
    obtain ⟨m, hm⟩ : ∃ m, S.m = m := ⟨_, rfl⟩
    rw [hn, hm]
    rw [hm] at hpos hml
    have hposz : (0 : Int) < (m : Int) := by omega
    have hlt := World.block_lt_of_cell? _ _ c0
    have hb2 : Below w.heap.size w ((w.alloc (.cells #[.int .i64 kd, .slice a n c, .slice (some ⟨b', off', none⟩) m c'] 26)).alloc (.cells #[.int .i64 0, .slice none 0 0, .slice none 0 0] 26)) := below_two _ _ _
    have d0 := (hb2.cell (p := ⟨b', off', none⟩) hlt).trans c0
    have d1 := (hb2.cell (p := ⟨b', off' + 1, none⟩) hlt).trans c1
    have d2 := (hb2.cell (p := ⟨b', off' + 2, none⟩) hlt).trans c2
    clear h7 hv h e1 e2 hkd hn hm hkk hin hvk f1 f2 hksk hksn hksm hma hm0 HV HI c0 c1 c2
    go_enter Tryd.func103, Tryd.ntmps103
    go_wp2_with fail
    refine bodyPost_ret (v := .agg #[.int .i64 ksk, .slice x1 ksn x4, .slice x5 ksm x8]) (by simp [results, Tryd.results103, go_sem]) rfl ?_
    rw [HR.out]
    exact ⟨M.kid 0, by rw [HVK.out], HIN.out.below (below_two _ _ _), below_two _ _ _⟩
  · have hk7 : (kd == 7) = false := by simpa using h7
    have HR : Hid (notR S = oneS 7 S) := by rw [Hid, notR, HKD.out, if_neg h7]
    have HE : Hid (M.sv = .slice a S.n c ∧ M.kv = .slice a' S.m c') := ⟨e1, e2⟩
    obtain ⟨n, hn⟩ : ∃ n, S.n = n := ⟨_, rfl⟩
    obtain ⟨m, hm⟩ : ∃ m, S.m = m := ⟨_, rfl⟩
    rw [hn, hm] at HE ⊢
    have HO : Hid (∀ w' b, Below w.heap.size w w' → w'.cell? ⟨b, 0, none⟩ = some (.int .i64 kd) → w'.cell? ⟨b, 1, none⟩ = some (.slice a n c) → w'.cell? ⟨b, 2, none⟩ = some (.slice a' m c') → ShRes (notR S) w (.returned (.agg #[.int .i64 7, .slice none 0 0, .slice (some ⟨b, 0, none⟩) 1 1])) w') := fun w' b hb c0 c1 c2 => by
      rw [HR.out]
      exact ⟨oneM b M, rfl, one_in 7 (HI.out.below hb) ⟨by rw [HKD.out]; exact c0, by rw [HE.out.1]; exact c1, by rw [HE.out.2]; exact c2⟩, hb⟩
    clear h7 hv h e1 e2 hkd hn hm hkk hma hm0 HV HI HE
    go_enter Tryd.func103, Tryd.ntmps103
    go_wp2_with fail
    refine bodyPost_ret (v := .agg #[.int .i64 7, .slice none 0 0, .slice (some ⟨w.heap.size + 1 + 1, 0, none⟩) 1 1]) (by simp [results, Tryd.results103, go_sem]) rfl ?_
    refine HO.out _ (w.heap.size + 1 + 1) ?_ (by simp [go_sem]) (by simp [go_sem]) (by simp [go_sem])
    repeat (first | exact Below.refl _ _ | refine Below.alloc ?_ (by simp <;> omega) _ | refine Below.setCell ?_ (by simp <;> omega) _)
end Go.Proofs.YtbnllbhlmnkgcaaDoor
