/- the walks of the two RexMany -/
import Derived.Test.YtbnllbhlmnkgcaaDoorTn
namespace Go.Proofs.YtbnllbhlmnkgcaaDoor
open Go.RowKit Go.Shelf
set_option linter.unusedVariables false
set_option linter.unusedSimpArgs false
attribute [local go_sem] Oper.semAt_some

/-- how many parts, if it is as it must be -/
def manyR (S : Sh) : Int := if okR S then (manyN 8 S : Int) else 0

set_option maxHeartbeats 1000000 in
theorem specRexMany_any (S : Sh) (M : Mx) (w : World) (h : In AnyB w S M) (hcnt : cnt S ≤ 1048576) :
    Calls Tryd.prog 34 #[vx S M] w fun e w' => e = .returned (.int .i64 (manyR S)) ∧ Below w.heap.size w w' := by
  have H1 : Hid (∀ w1, Below w.heap.size w w1 → Calls Tryd.prog 19 #[vx S M] w1 fun e w' => e = .returned (.bool (okR S)) ∧ Below w1.heap.size w1 w') := fun w1 hb => specRexOk_any S M w1 (h.below hb) hcnt
  have H2 : Hid (∀ w1, Below w.heap.size w w1 → Calls Tryd.prog 60 #[vx S M, .int .i64 8] w1 fun e w' => e = .returned (.int .i64 (manyN 8 S)) ∧ Below w1.heap.size w1 w') := fun w1 hb => l2Many_any 8 S M 8 w1 (h.below hb) hcnt rfl (by omega)
  obtain ⟨a, n, c, a', m, c', hv⟩ := h.value
  rw [hv] at H1 H2 ⊢
  clear hv
  have hB0 : Below w.heap.size w (w.alloc (.cells #[.int .i64 S.kind, .slice a n c, .slice a' m c'] 26)) := (Below.refl _ _).alloc (Nat.le_refl _) _
  by_cases hf : okR S = true
  · rw [hf] at H1
    have HR : Hid (manyR S = (manyN 8 S : Int)) := by simp [Hid, manyR, hf]
    clear hf
    go_enter Tryd.func34, Tryd.ntmps34
    go_wp2_with fail
    refine (H1.out _ hB0).mono ?_
    rintro e w1 ⟨rfl, hb1⟩
    obtain ⟨hc1, hf1⟩ := bcell hb1
    have r0 : w1.cell? ⟨w.heap.size, 0, none⟩ = some (.int .i64 S.kind) := by rw [hc1 _ _ (by simp)]; simp [go_sem]
    have r1 : w1.cell? ⟨w.heap.size, 1, none⟩ = some (.slice a n c) := by rw [hc1 _ _ (by simp)]; simp [go_sem]
    have r2 : w1.cell? ⟨w.heap.size, 2, none⟩ = some (.slice a' m c') := by rw [hc1 _ _ (by simp)]; simp [go_sem]
    clear hc1 hf1
    have hB1 := hB0.trans (hb1.mono hB0.size)
    go_wp2_with fail
    refine (H2.out _ hB1).mono ?_
    rintro e w2 ⟨rfl, hb2⟩
    go_wp2_with fail
    go_ret
    exact ⟨ret_int HR.out.symm, hB1.trans (hb2.mono hB1.size)⟩
  · have hf' : okR S = false := Bool.eq_false_iff.2 hf
    rw [hf'] at H1
    have HR : Hid (manyR S = 0) := by simp [Hid, manyR, hf']
    clear hf hf'
    go_enter Tryd.func34, Tryd.ntmps34
    go_wp2_with fail
    refine (H1.out _ hB0).mono ?_
    rintro e w1 ⟨rfl, hb1⟩
    go_wp2_with fail
    go_ret
    exact ⟨ret_int HR.out.symm, hB0.trans (hb1.mono hB0.size)⟩

set_option maxRecDepth 100000 in
set_option maxHeartbeats 2000000 in
theorem implRexMany_any (S : Sh) (M : Mx) (w : World) (t : TypeId) (ea : Addr) (hE : Err w t ea) (hT : In AnyB w S M) (hcnt : cnt S ≤ 1048576) :
    Calls Tryd.prog 35 #[vx S M] w fun e w' => e = .returned (.int .i64 (manyR S)) ∧ Below w.heap.size w w' := by
  obtain ⟨a, n, c, a', m, c', es, ek⟩ := hT.slices
  have hB0 : Below w.heap.size w (w.alloc (.cells #[.int .i64 S.kind, .slice a n c, .slice a' m c'] 26)) := (Below.refl _ _).alloc (Nat.le_refl _) _
  have H1 : Hid (Calls Tryd.prog 32 #[vx S M] (w.alloc (.cells #[.int .i64 S.kind, .slice a n c, .slice a' m c'] 26)) fun e w' => e = .returned (.bool (okR S)) ∧ Below (w.alloc (.cells #[.int .i64 S.kind, .slice a n c, .slice a' m c'] 26)).heap.size (w.alloc (.cells #[.int .i64 S.kind, .slice a n c, .slice a' m c'] 26)) w') :=
    implRexOk_any S M _ t ea (hE.below hB0) (hT.below hB0) hcnt
  have hv : vx S M = .agg #[.int .i64 S.kind, .slice a n c, .slice a' m c'] := by rw [vx, es, ek]
  have HK0 : Hid (M.sv = .slice a n c ∧ M.kv = .slice a' m c') := ⟨es, ek⟩
  have HT : Hid (In (· < w.heap.size) w S M) := hT.lt
  rw [hv] at H1 ⊢
  clear hv es ek hT hE
  by_cases hf : okR S = true
  · rw [hf] at H1
    have HR : Hid (manyR S = (manyN 8 S : Int)) := by simp [Hid, manyR, hf]
    have HF : Hid (okR S = true) := hf
    clear hf
    refine calls_of_wpAt Tryd.func35 rfl ?_
    simp only [Tryd.ntmps35, List.size_toArray, List.length_cons, List.length_nil, Nat.reduceAdd, Nat.reduceSub, Array.replicate_succ, Array.replicate_zero, List.push_toArray, List.append_toArray, List.nil_append, List.cons_append]
    refine wpAt_seq (wpAt_of_wp ?_)
    go_wp2_with fail
    refine wpAt_seq (wpAt_of_wp ?_)
    go_wp2_with fail
    refine H1.out.mono ?_
    rintro e w1 ⟨rfl, hb1⟩
    have hB1 := hB0.trans (hb1.mono hB0.size)
    have r0 : w1.cell? ⟨w.heap.size, 0, none⟩ = some (.int .i64 S.kind) := (hb1.cell (p := ⟨w.heap.size, 0, none⟩) (by simp)).trans (by simp [go_sem])
    have r1 : w1.cell? ⟨w.heap.size, 1, none⟩ = some (.slice a n c) := (hb1.cell (p := ⟨w.heap.size, 1, none⟩) (by simp)).trans (by simp [go_sem])
    have r2 : w1.cell? ⟨w.heap.size, 2, none⟩ = some (.slice a' m c') := (hb1.cell (p := ⟨w.heap.size, 2, none⟩) (by simp)).trans (by simp [go_sem])
    have hlt1 : w.heap.size < w1.heap.size := World.block_lt_of_cell? _ _ r0
    clear H1
    go_wp2_with fail
    refine wpAt_seq (wpAt_of_wp ?_)
    go_wp2_with fail
    refine wpAt_seq (wpAt_seq (wpAt_of_wp ?_))
    have q0 : (w1.alloc (.cells #[.int .i64 0] 3)).cell? ⟨w.heap.size, 0, none⟩ = some (.int .i64 S.kind) := (((Below.refl _ _).alloc (Nat.le_refl _) _).cell (p := ⟨w.heap.size, 0, none⟩) hlt1).trans r0
    have q1 : (w1.alloc (.cells #[.int .i64 0] 3)).cell? ⟨w.heap.size, 1, none⟩ = some (.slice a n c) := (((Below.refl _ _).alloc (Nat.le_refl _) _).cell (p := ⟨w.heap.size, 1, none⟩) hlt1).trans r1
    have q2 : (w1.alloc (.cells #[.int .i64 0] 3)).cell? ⟨w.heap.size, 2, none⟩ = some (.slice a' m c') := (((Below.refl _ _).alloc (Nat.le_refl _) _).cell (p := ⟨w.heap.size, 2, none⟩) hlt1).trans r2
    go_wp2_with fail
    refine (partsOf_any _ S.kind a n c a' m c' rfl _).mono ?_
    rintro e w2 ⟨rfl, rfl⟩
    go_wp2_with fail
    refine wpAt_block ?_
    clear q0 q1 q2 r0 r1 r2
    have hb2 : Below w1.heap.size w1 ((w1.alloc (.cells #[.int .i64 0] 3)).alloc (.cells #[.int .i64 S.kind, .slice a n c, .slice a' m c'] 26)) := ((Below.refl _ _).alloc (Nat.le_refl _) _).alloc (by simp) _
    have m0 : ((w1.alloc (.cells #[.int .i64 0] 3)).alloc (.cells #[.int .i64 S.kind, .slice a n c, .slice a' m c'] 26)).cell? ⟨w1.heap.size, 0, none⟩ = some (.int .i64 0) := by simp [go_sem]
    have f0 : ((w1.alloc (.cells #[.int .i64 0] 3)).alloc (.cells #[.int .i64 S.kind, .slice a n c, .slice a' m c'] 26)).frozen? ⟨w1.heap.size, 0, none⟩ = false := by simp [go_sem]
    have hk : Kid ((w1.alloc (.cells #[.int .i64 0] 3)).alloc (.cells #[.int .i64 S.kind, .slice a n c, .slice a' m c'] 26)) (w1.heap.size + 1) 0 S M := by
      refine ⟨by simp [go_sem], ?_, ?_⟩
      · rw [HK0.out.1]; simp [go_sem]
      · rw [HK0.out.2]; simp [go_sem]
    have hsz : ((w1.alloc (.cells #[.int .i64 0] 3)).alloc (.cells #[.int .i64 S.kind, .slice a n c, .slice a' m c'] 26)).heap.size = w1.heap.size + 2 := by simp
    obtain ⟨W0, hW0⟩ : ∃ W0, ((w1.alloc (.cells #[.int .i64 0] 3)).alloc (.cells #[.int .i64 S.kind, .slice a n c, .slice a' m c'] 26)) = W0 := ⟨_, rfl⟩
    rw [hW0] at hb2 m0 f0 hk hsz ⊢
    have hB2 := hB1.trans (hb2.mono hB1.size)
    have hT0 : In (· < w.heap.size) W0 S M := HT.out.below hB2
    have hseq := parts_seq S M w.heap.size (w1.heap.size + 1) W0 (by omega) (by omega) hk hT0 hcnt
    have hlen : (partsL S 0 M).length ≤ 24 := ((okR_parts hT0).1 HF.out).1
    have HLEN : Hid ((partsL S 0 M).length = manyN 8 S) := by
      have h8 : formB 8 S = true := by have := HF.out; simp only [okR, Bool.and_eq_true] at this; exact this.1
      exact (many_parts (d := 0) hT0 h8).symm
    clear hk hW0
    refine wpAt_rangeFunc_pan ⟨_, Tryd.func35⟩ (gf := 130) (lb := #[.pointer (some ⟨w1.heap.size + 1, 0, none⟩)]) rfl (enters_of Tryd.func130 (by kernel_rfl) rfl) hseq (fun _ => rfl) (by omega)
      (· = w1.heap.size) (fun k hk => by omega)
      (fun pre W => Keeps (· = w1.heap.size) W0 W ∧ W.cell? ⟨w1.heap.size, 0, none⟩ = some (.int .i64 pre.length) ∧ W.frozen? ⟨w1.heap.size, 0, none⟩ = false)
      (fun _ _ => False)
      ?hI ⟨Keeps.refl _ _, by simpa using m0, f0⟩ ?round ?done (fun _ _ h => h.elim)
    case hI =>
      rintro s W W' ⟨h1, h2, h3⟩ hk
      exact ⟨h1.trans_new hk (fun i hi => hi.1), hk.cell h2 (by simp; omega), (hk.frozen h2 (by simp; omega)).trans h3⟩
    case done =>
      rintro W ⟨h1, h2, h3⟩ hD
      have hB3 := hB2.trans (h1.below (m := w.heap.size) (by omega) (fun k e => by omega))
      rw [HLEN.out] at h2
      refine wpAt_of_wp ?_
      go_wp2_with fail
      rw [hsz] at hD
      refine ⟨by simp, .inl ⟨_, _, rfl, run_takeDeferred hD, ?_⟩⟩
      refine ⟨.int .i64 (manyN 8 S), by simp [results, Tryd.results35, go_sem], ret_int HR.out.symm, ?_⟩
      exact hB3.trans (belowK_b (w := W0) (by omega) W _ _ _ (by omega) hD rfl rfl)
    case round =>
      rintro l pre ⟨d, S', M'⟩ W hl ⟨h1, h2, h3⟩ hlt hpre
      have hq : pre.length + 1 ≤ 24 := by have := hpre.length_le; simp at this; omega
      obtain ⟨q, hqq⟩ : ∃ q : Int, (pre.length : Int) = q := ⟨_, rfl⟩
      have hq0 : 0 ≤ q := by omega
      have hq1 : q ≤ 24 := by omega
      rw [hqq] at h2
      simp only [encP, vx]
      gi_wp2_with fail
      refine ⟨Below.refl _ _, fun W2 hK2 hs2 => ?_⟩
      have z1 : W2.cell? ⟨w1.heap.size, 0, none⟩ = some (.int .i64 q) := hK2.cell h2 (by simp only; omega)
      have z2 : W2.frozen? ⟨w1.heap.size, 0, none⟩ = false := (hK2.frozen h2 (by simp only; omega)).trans h3
      have HKW : Hid (Keeps (· = w1.heap.size) W0 W2) := h1.trans_new hK2 (fun i hi => by omega)
      clear hK2 h1 h2 h3 hpre
      gi_wp2_with fail
      refine ⟨keeps_setCell W2 ⟨w1.heap.size, 0, none⟩ _, HKW.out.trans (keeps_setCell W2 ⟨w1.heap.size, 0, none⟩ _), ?_, by rw [World.frozen?_setCell]; exact z2⟩
      rw [World.cell?_setCell_same' _ _ _ (by rw [z1]; rfl)]
      simp only [List.length_append, List.length_cons, List.length_nil]
      congr 2; omega
  · have hf' : okR S = false := Bool.eq_false_iff.2 hf
    rw [hf'] at H1
    have HR : Hid (manyR S = 0) := by simp [Hid, manyR, hf']
    clear hf hf'
    refine calls_of_wpAt Tryd.func35 rfl ?_
    simp only [Tryd.ntmps35, List.size_toArray, List.length_cons, List.length_nil, Nat.reduceAdd, Nat.reduceSub, Array.replicate_succ, Array.replicate_zero, List.push_toArray, List.append_toArray, List.nil_append, List.cons_append]
    refine wpAt_seq (wpAt_of_wp ?_)
    go_wp2_with fail
    refine wpAt_seq (wpAt_of_wp ?_)
    go_wp2_with fail
    refine H1.out.mono ?_
    rintro e w1 ⟨rfl, hb1⟩
    go_wp2_with fail
    exact ⟨.int .i64 0, by simp [results, Tryd.results35, go_sem], ret_int HR.out.symm, hB0.trans (hb1.mono hB0.size)⟩

end Go.Proofs.YtbnllbhlmnkgcaaDoor
