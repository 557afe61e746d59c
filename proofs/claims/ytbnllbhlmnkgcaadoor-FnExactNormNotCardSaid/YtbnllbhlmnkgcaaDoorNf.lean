/- The walks of the model's NormStar and NormNot. -/
import Derived.Test.YtbnllbhlmnkgcaaDoorNe
namespace Go.Proofs.YtbnllbhlmnkgcaaDoor
open Go.RowKit
set_option linter.unusedVariables false
set_option linter.unusedSimpArgs false

theorem form_pos {d : Nat} (S : Sh) (h : formB d S = true) (hk : S.kind = 7) : 0 < S.m := by
  obtain ⟨kind, n, L, H, m, K, rfl, _⟩ := Sh.cases S
  cases d with
  | zero => simp [formB] at h
  | succ d =>
    rw [formB_mk] at h
    simp only [Bool.and_eq_true, goodB, beq_iff_eq] at h
    have h1 := h.1.1.1
    rw [show kind = 7 from hk, show kidsOf 7 = 1 from rfl] at h1
    show 0 < m
    omega
/-- what the one made of S comes to -/
def normR (f : Sh → Sh) (S : Sh) : Sh := if formB 60 S = true then f S else zeroS 0
theorem normR_true {f : Sh → Sh} {S : Sh} (h : formB 60 S = true) : normR f S = f S := if_pos h
theorem normR_false {f : Sh → Sh} {S : Sh} (h : formB 60 S = false) : normR f S = zeroS 0 := if_neg (by simp [h])

theorem own3 {w : World} {b lo : Nat} (h : b < lo) (u0 u1 u2 : Value) {S : Sh} {M : Mx} (hi : Own lo w S M) : Own lo (((w.setCell ⟨b, 0, none⟩ u0).setCell ⟨b, 1, none⟩ u1).setCell ⟨b, 2, none⟩ u2) S M :=
  hi.keep (fun k hk _ => keep3 w b 0 1 2 u0 u1 u2 (by omega))

set_option maxHeartbeats 2000000 in
theorem specNormStar_any (S : Sh) (M : Mx) (w : World) (h : In AnyB w S M) (hcnt : cnt S ≤ 1048576) : Calls Tryd.prog 46 #[vx S M] w (OwnRes (normR starR S) w) := by
  have HD : Hid (∀ w1, Below w.heap.size w w1 → Calls Tryd.prog 94 #[vx S M] w1 fun e w' => e = .returned (.bool (formB 60 S)) ∧ Below w1.heap.size w1 w') := fun w1 hb => l4Deep_any S M w1 (h.below hb) hcnt
  have HC : Hid (∀ w1, Below w.heap.size w w1 → Calls Tryd.prog 95 #[vx S M] w1 (OwnRes S w1)) := fun w1 hb => l2Copy_any S M w1 (h.below hb) (by omega)
  obtain ⟨a, c, a', c', hv⟩ := h.value'
  rw [hv] at HD HC ⊢
  have hb0 : Below w.heap.size w ((w.alloc (.cells #[.int .i64 S.kind, .slice a S.n c, .slice a' S.m c'] 26)).alloc (.cells #[.int .i64 0, .slice none 0 0, .slice none 0 0] 26)) := below_two _ _ _
  cases hf : formB 60 S with
  | false =>
    rw [hf] at HD
    have HR : Hid (normR starR S = zeroS 0) := normR_false hf
    clear hv hf h
    go_enter Tryd.func46, Tryd.ntmps46
    go_wp2_with fail
    refine (HD.out _ hb0).mono ?_
    rintro e w1 ⟨rfl, hb1⟩
    obtain ⟨hc1, hf1⟩ := bcell hb1
    have s0 : w1.cell? ⟨w.heap.size + 1, 0, none⟩ = some (.int .i64 0) := by rw [hc1 _ _ (by simp <;> omega)]; simp [go_sem]
    have s1 : w1.cell? ⟨w.heap.size + 1, 1, none⟩ = some (.slice none 0 0) := by rw [hc1 _ _ (by simp <;> omega)]; simp [go_sem]
    have s2 : w1.cell? ⟨w.heap.size + 1, 2, none⟩ = some (.slice none 0 0) := by rw [hc1 _ _ (by simp <;> omega)]; simp [go_sem]
    have sf : ∀ o, w1.frozen? ⟨w.heap.size + 1, o, none⟩ = false := fun o => by rw [hf1 _ _ (by simp <;> omega)]; simp [go_sem]
    have HB1 : Hid (Below w.heap.size w w1) := hb0.trans (hb1.mono hb0.size)
    clear hc1 hf1 hb1
    go_wp2_with fail
    refine bodyPost_ret (v := .agg #[.int .i64 0, .slice none 0 0, .slice none 0 0]) (by simp [results, Tryd.results46, go_sem, s0, s1, s2]) rfl ?_
    rw [HR.out]
    exact ⟨Mx.no, rfl, zero_own _ _ _, ((HB1.out.setCell (by simp) _).setCell (by simp) _).setCell (by simp) _⟩
  | true =>
    rw [hf] at HD
    have HR : Hid (normR starR S = starR S) := normR_true hf
    have HG : Hid (∀ M1 w1, In AnyB w1 S M1 → Calls Tryd.prog 101 #[vx S M1] w1 (ShRes (starR S) w1)) := fun M1 w1 h1 => l4Star_any S M1 w1 h1
    have HC2 : Hid (∀ M1 w1, In AnyB w1 (starR S) M1 → Calls Tryd.prog 95 #[vx (starR S) M1] w1 (OwnRes (starR S) w1)) := fun M1 w1 h1 => l2Copy_any _ M1 w1 h1 (by have := starR_cnt S; omega)
    clear hv hf h
    go_enter Tryd.func46, Tryd.ntmps46
    go_wp2_with fail
    refine (HD.out _ hb0).mono ?_
    rintro e w1 ⟨rfl, hb1⟩
    obtain ⟨hc1, hf1⟩ := bcell hb1
    have r0 : w1.cell? ⟨w.heap.size, 0, none⟩ = some (.int .i64 S.kind) := by rw [hc1 _ _ (by simp <;> omega)]; simp [go_sem]
    have r1 : w1.cell? ⟨w.heap.size, 1, none⟩ = some (.slice a S.n c) := by rw [hc1 _ _ (by simp <;> omega)]; simp [go_sem]
    have r2 : w1.cell? ⟨w.heap.size, 2, none⟩ = some (.slice a' S.m c') := by rw [hc1 _ _ (by simp <;> omega)]; simp [go_sem]
    have HRB1 : Hid (Rb w1 (w.heap.size + 1)) := by
      have := (Rb.new (w.alloc (.cells #[.int .i64 S.kind, .slice a S.n c, .slice a' S.m c'] 26)) (.int .i64 0) (.slice none 0 0) (.slice none 0 0)).of_block (hb1.block _ (by simp))
      rwa [size_new] at this
    have HB1 : Hid (Below w.heap.size w w1) := hb0.trans (hb1.mono hb0.size)
    clear hc1 hf1 hb1
    go_wp2_with fail
    refine (HC.out _ HB1.out).mono ?_
    rintro e w2 ⟨M2, rfl, hown2, hb2⟩
    have HI2 : Hid (In AnyB w2 S M2) := hown2.any
    have HRB2 : Hid (Rb w2 (w.heap.size + 1)) := HRB1.out.of_block (hb2.block _ HRB1.out.lt)
    have HB2 : Hid (Below w.heap.size w w2) := HB1.out.trans (hb2.mono HB1.out.size)
    clear hown2 hb2 r0 r1 r2
    go_wp2_with fail
    refine (HG.out M2 w2 HI2.out).mono ?_
    rintro e w3 ⟨M3, rfl, hin3, hb3⟩
    have HI3 : Hid (In AnyB w3 (starR S) M3) := hin3
    have HRB3 : Hid (Rb w3 (w.heap.size + 1)) := HRB2.out.of_block (hb3.block _ HRB2.out.lt)
    have HB3 : Hid (Below w.heap.size w w3) := HB2.out.trans (hb3.mono HB2.out.size)
    clear hin3 hb3
    go_wp2_with fail
    refine (HC2.out M3 w3 HI3.out).mono ?_
    rintro e w4 ⟨M4, rfl, hown4, hb4⟩
    have hlt3 : w.heap.size + 1 < w3.heap.size := HRB3.out.lt
    have HRB4 : Hid (Rb w4 (w.heap.size + 1)) := HRB3.out.of_block (hb4.block _ HRB3.out.lt)
    have HB4 : Hid (Below w.heap.size w w4) := HB3.out.trans (hb4.mono HB3.out.size)
    have HO4 : Hid (Own w3.heap.size w4 (starR S) M4) := hown4
    obtain ⟨x1, x2, x3, x4, hv4⟩ := hown4.any.value'
    have HV4 : Hid (vx (starR S) M4 = .agg #[.int .i64 (starR S).kind, .slice x1 (starR S).n x2, .slice x3 (starR S).m x4]) := hv4
    rw [hv4]
    obtain ⟨⟨b0', d0⟩, ⟨b1', d1⟩, ⟨b2', d2⟩, df⟩ := HRB4.out.cells
    clear hown4 hb4 hv4
    go_wp2_with fail
    refine bodyPost_ret (v := .agg #[.int .i64 (starR S).kind, .slice x1 (starR S).n x2, .slice x3 (starR S).m x4]) (by simp [results, Tryd.results46, go_sem, d0, d1, d2]) rfl ?_
    rw [HR.out]
    exact ⟨M4, by rw [HV4.out], (own3 hlt3 _ _ _ HO4.out).mono (by omega), ((HB4.out.setCell (by simp) _).setCell (by simp) _).setCell (by simp) _⟩

set_option maxHeartbeats 2000000 in
theorem specNormNot_any (S : Sh) (M : Mx) (w : World) (h : In AnyB w S M) (hcnt : cnt S ≤ 1048576) : Calls Tryd.prog 48 #[vx S M] w (OwnRes (normR notR S) w) := by
  have HD : Hid (∀ w1, Below w.heap.size w w1 → Calls Tryd.prog 94 #[vx S M] w1 fun e w' => e = .returned (.bool (formB 60 S)) ∧ Below w1.heap.size w1 w') := fun w1 hb => l4Deep_any S M w1 (h.below hb) hcnt
  have HC : Hid (∀ w1, Below w.heap.size w w1 → Calls Tryd.prog 95 #[vx S M] w1 (OwnRes S w1)) := fun w1 hb => l2Copy_any S M w1 (h.below hb) (by omega)
  obtain ⟨a, c, a', c', hv⟩ := h.value'
  rw [hv] at HD HC ⊢
  have hb0 : Below w.heap.size w ((w.alloc (.cells #[.int .i64 S.kind, .slice a S.n c, .slice a' S.m c'] 26)).alloc (.cells #[.int .i64 0, .slice none 0 0, .slice none 0 0] 26)) := below_two _ _ _
  cases hf : formB 60 S with
  | false =>
    rw [hf] at HD
    have HR : Hid (normR notR S = zeroS 0) := normR_false hf
    clear hv hf h
    go_enter Tryd.func48, Tryd.ntmps48
    go_wp2_with fail
    refine (HD.out _ hb0).mono ?_
    rintro e w1 ⟨rfl, hb1⟩
    obtain ⟨hc1, hf1⟩ := bcell hb1
    have s0 : w1.cell? ⟨w.heap.size + 1, 0, none⟩ = some (.int .i64 0) := by rw [hc1 _ _ (by simp <;> omega)]; simp [go_sem]
    have s1 : w1.cell? ⟨w.heap.size + 1, 1, none⟩ = some (.slice none 0 0) := by rw [hc1 _ _ (by simp <;> omega)]; simp [go_sem]
    have s2 : w1.cell? ⟨w.heap.size + 1, 2, none⟩ = some (.slice none 0 0) := by rw [hc1 _ _ (by simp <;> omega)]; simp [go_sem]
    have sf : ∀ o, w1.frozen? ⟨w.heap.size + 1, o, none⟩ = false := fun o => by rw [hf1 _ _ (by simp <;> omega)]; simp [go_sem]
    have HB1 : Hid (Below w.heap.size w w1) := hb0.trans (hb1.mono hb0.size)
    clear hc1 hf1 hb1
    go_wp2_with fail
    refine bodyPost_ret (v := .agg #[.int .i64 0, .slice none 0 0, .slice none 0 0]) (by simp [results, Tryd.results48, go_sem, s0, s1, s2]) rfl ?_
    rw [HR.out]
    exact ⟨Mx.no, rfl, zero_own _ _ _, ((HB1.out.setCell (by simp) _).setCell (by simp) _).setCell (by simp) _⟩
  | true =>
    rw [hf] at HD
    have HR : Hid (normR notR S = notR S) := normR_true hf
    have HG : Hid (∀ M1 w1, In AnyB w1 S M1 → Calls Tryd.prog 103 #[vx S M1] w1 (ShRes (notR S) w1)) := fun M1 w1 h1 => l4Not_any S M1 w1 h1 (form_pos S hf)
    have HC2 : Hid (∀ M1 w1, In AnyB w1 (notR S) M1 → Calls Tryd.prog 95 #[vx (notR S) M1] w1 (OwnRes (notR S) w1)) := fun M1 w1 h1 => l2Copy_any _ M1 w1 h1 (by have := notR_cnt S (form_pos S hf); omega)
    clear hv hf h
    go_enter Tryd.func48, Tryd.ntmps48
    go_wp2_with fail
    refine (HD.out _ hb0).mono ?_
    rintro e w1 ⟨rfl, hb1⟩
    obtain ⟨hc1, hf1⟩ := bcell hb1
    have r0 : w1.cell? ⟨w.heap.size, 0, none⟩ = some (.int .i64 S.kind) := by rw [hc1 _ _ (by simp <;> omega)]; simp [go_sem]
    have r1 : w1.cell? ⟨w.heap.size, 1, none⟩ = some (.slice a S.n c) := by rw [hc1 _ _ (by simp <;> omega)]; simp [go_sem]
    have r2 : w1.cell? ⟨w.heap.size, 2, none⟩ = some (.slice a' S.m c') := by rw [hc1 _ _ (by simp <;> omega)]; simp [go_sem]
    have HRB1 : Hid (Rb w1 (w.heap.size + 1)) := by
      have := (Rb.new (w.alloc (.cells #[.int .i64 S.kind, .slice a S.n c, .slice a' S.m c'] 26)) (.int .i64 0) (.slice none 0 0) (.slice none 0 0)).of_block (hb1.block _ (by simp))
      rwa [size_new] at this
    have HB1 : Hid (Below w.heap.size w w1) := hb0.trans (hb1.mono hb0.size)
    clear hc1 hf1 hb1
    go_wp2_with fail
    refine (HC.out _ HB1.out).mono ?_
    rintro e w2 ⟨M2, rfl, hown2, hb2⟩
    have HI2 : Hid (In AnyB w2 S M2) := hown2.any
    have HRB2 : Hid (Rb w2 (w.heap.size + 1)) := HRB1.out.of_block (hb2.block _ HRB1.out.lt)
    have HB2 : Hid (Below w.heap.size w w2) := HB1.out.trans (hb2.mono HB1.out.size)
    clear hown2 hb2 r0 r1 r2
    go_wp2_with fail
    refine (HG.out M2 w2 HI2.out).mono ?_
    rintro e w3 ⟨M3, rfl, hin3, hb3⟩
    have HI3 : Hid (In AnyB w3 (notR S) M3) := hin3
    have HRB3 : Hid (Rb w3 (w.heap.size + 1)) := HRB2.out.of_block (hb3.block _ HRB2.out.lt)
    have HB3 : Hid (Below w.heap.size w w3) := HB2.out.trans (hb3.mono HB2.out.size)
    clear hin3 hb3
    go_wp2_with fail
    refine (HC2.out M3 w3 HI3.out).mono ?_
    rintro e w4 ⟨M4, rfl, hown4, hb4⟩
    have hlt3 : w.heap.size + 1 < w3.heap.size := HRB3.out.lt
    have HRB4 : Hid (Rb w4 (w.heap.size + 1)) := HRB3.out.of_block (hb4.block _ HRB3.out.lt)
    have HB4 : Hid (Below w.heap.size w w4) := HB3.out.trans (hb4.mono HB3.out.size)
    have HO4 : Hid (Own w3.heap.size w4 (notR S) M4) := hown4
    obtain ⟨x1, x2, x3, x4, hv4⟩ := hown4.any.value'
    have HV4 : Hid (vx (notR S) M4 = .agg #[.int .i64 (notR S).kind, .slice x1 (notR S).n x2, .slice x3 (notR S).m x4]) := hv4
    rw [hv4]
    obtain ⟨⟨b0', d0⟩, ⟨b1', d1⟩, ⟨b2', d2⟩, df⟩ := HRB4.out.cells
    clear hown4 hb4 hv4
    go_wp2_with fail
    refine bodyPost_ret (v := .agg #[.int .i64 (notR S).kind, .slice x1 (notR S).n x2, .slice x3 (notR S).m x4]) (by simp [results, Tryd.results48, go_sem, d0, d1, d2]) rfl ?_
    rw [HR.out]
    exact ⟨M4, by rw [HV4.out], (own3 hlt3 _ _ _ HO4.out).mono (by omega), ((HB4.out.setCell (by simp) _).setCell (by simp) _).setCell (by simp) _⟩
end Go.Proofs.YtbnllbhlmnkgcaaDoor
