/- l3Is at every Rex, and the model's MatchIs -/
import Derived.Test.YtkbhljpdneibaaaDoorMe
namespace Go.Proofs.YtkbhljpdneibaaaDoor
open Go.RowKit
set_option linter.unusedVariables false
set_option linter.unusedSimpArgs false

theorem good_kids {kind : Int} {n : Nat} {L H : Nat → Int} {m : Nat} (h : goodB kind n L H m = true) : kidsOf kind = (m : Int) := by
  simp only [goodB, Bool.and_eq_true, beq_iff_eq] at h
  exact h.1.1
theorem form_kid {d : Nat} {kind : Int} {n : Nat} {L H : Nat → Int} {m : Nat} {K : Nat → Sh} (h : formB (d + 1) (.mk kind n L H m K) = true) : goodB kind n L H m = true ∧ ∀ i, i < m → formB d (K i) = true := by
  simp only [formB_mk, Bool.and_eq_true, List.all_eq_true, List.mem_range] at h
  exact h
theorem kids_cases {kind : Int} {m : Nat} (h : kidsOf kind = (m : Int)) : (kind = 1 ∧ m = 0) ∨ (kind = 2 ∧ m = 0) ∨ (kind = 3 ∧ m = 2) ∨ (kind = 4 ∧ m = 2) ∨ (kind = 5 ∧ m = 1) ∨ (kind = 6 ∧ m = 2) ∨ (kind = 7 ∧ m = 1) := by
  unfold kidsOf at h
  split at h
  · omega
  · split at h
    · omega
    · split at h <;> omega

theorem l3Is_any (S : Sh) : ∀ (d : Nat) (M : Mx) (w : World), formB d S = true → In AnyB w S M → cnt S ≤ 1048576 → L3 w (vx S M) (lkB S) := by
  induction S using Sh.ind with
  | h kind n L H m K ih =>
    intro d M w hf hin hcnt s w1 hs hb1
    replace hin := hin.below hb1
    cases d with
    | zero => simp [formB] at hf
    | succ d =>
      obtain ⟨hg, hk⟩ := form_kid hf
      obtain ⟨sv, kv, M, rfl⟩ := Mx.cases M
      obtain ⟨a, b, off, cap, a', b', off', cap', e1, hn, hsp, hl, e2, hm, hl', hkid⟩ := hin
      obtain rfl : sv = _ := e1
      obtain rfl : kv = _ := e2
      simp only [Mx.mk_kid] at hkid
      simp only [vx, Sh.mk_kind, Mx.mk_sv, Mx.mk_kv]
      simp only [cnt_mk] at hcnt
      have HK : ∀ i, i < m → ∃ (k0 : Int) (a0 b0 : Option Addr) (n0 c0 m0 d0 : Nat), w1.cell? ⟨b', off' + i * 3, none⟩ = some (.int .i64 k0) ∧ w1.cell? ⟨b', off' + i * 3 + 1, none⟩ = some (.slice a0 n0 c0) ∧ w1.cell? ⟨b', off' + i * 3 + 2, none⟩ = some (.slice b0 m0 d0) ∧
          L3 w1 (.agg #[.int .i64 k0, .slice a0 n0 c0, .slice b0 m0 d0]) (lkB (K i)) := fun i hi => by
        obtain ⟨⟨x0, x1, x2⟩, hin0⟩ := hkid i hi
        have h3 := ih i hi d (M i) w1 (hk i hi) hin0 (by have := sumN_at (f := fun i => cnt (K i)) hi; omega)
        obtain ⟨p, q, r, p', q', r', z1, z2⟩ := hin0.slices
        rw [z1] at x1
        rw [z2] at x2
        rw [vx, z1, z2] at h3
        exact ⟨_, _, _, _, _, _, _, x0, x1, x2, h3⟩
      rcases kids_cases (good_kids hg) with ⟨rfl, rfl⟩ | ⟨rfl, rfl⟩ | ⟨rfl, rfl⟩ | ⟨rfl, rfl⟩ | ⟨rfl, rfl⟩ | ⟨rfl, rfl⟩ | ⟨rfl, rfl⟩
      · exact l3Is_1 n L H 0 K a b off cap a' cap' s hs w1 (fun h => (hn h).1) hsp (by omega)
      · exact l3Is_2 n L H 0 K a cap a' cap' s w1
      · obtain rfl := (hm (by omega)).1
        obtain ⟨k0, a0, b0, n0, c0, m0, d0, x0, x1, x2, h0⟩ := HK 0 (by omega)
        obtain ⟨k1, a1, b1, n1, c1, m1, d1, y0, y1, y2, h1⟩ := HK 1 (by omega)
        simp only [Nat.zero_mul, Nat.add_zero, Nat.one_mul] at x0 x1 x2 y0 y1 y2
        rw [lk_3]
        exact l3Is_3 n a cap b' off' cap' s hs w1 k0 a0 b0 n0 c0 m0 d0 _ x0 x1 x2 h0 k1 a1 b1 n1 c1 m1 d1 _ y0 y1 y2 h1
      · obtain rfl := (hm (by omega)).1
        obtain ⟨k0, a0, b0, n0, c0, m0, d0, x0, x1, x2, h0⟩ := HK 0 (by omega)
        obtain ⟨k1, a1, b1, n1, c1, m1, d1, y0, y1, y2, h1⟩ := HK 1 (by omega)
        simp only [Nat.zero_mul, Nat.add_zero, Nat.one_mul] at x0 x1 x2 y0 y1 y2
        rw [lk_4]
        exact l3Is_4 n a cap b' off' cap' s hs w1 k0 a0 b0 n0 c0 m0 d0 _ x0 x1 x2 h0 k1 a1 b1 n1 c1 m1 d1 _ y0 y1 y2 h1
      · obtain rfl := (hm (by omega)).1
        obtain ⟨k0, a0, b0, n0, c0, m0, d0, x0, x1, x2, h0⟩ := HK 0 (by omega)
        simp only [Nat.zero_mul, Nat.add_zero, Nat.one_mul] at x0 x1 x2
        rw [lk_5]
        exact l3Is_5 n a cap b' off' cap' s hs w1 k0 a0 b0 n0 c0 m0 d0 _ x0 x1 x2 h0
      · obtain rfl := (hm (by omega)).1
        obtain ⟨k0, a0, b0, n0, c0, m0, d0, x0, x1, x2, h0⟩ := HK 0 (by omega)
        obtain ⟨k1, a1, b1, n1, c1, m1, d1, y0, y1, y2, h1⟩ := HK 1 (by omega)
        simp only [Nat.zero_mul, Nat.add_zero, Nat.one_mul] at x0 x1 x2 y0 y1 y2
        rw [lk_6]
        exact l3Is_6 n a cap b' off' cap' s hs w1 k0 a0 b0 n0 c0 m0 d0 _ x0 x1 x2 h0 k1 a1 b1 n1 c1 m1 d1 _ y0 y1 y2 h1
      · obtain rfl := (hm (by omega)).1
        obtain ⟨k0, a0, b0, n0, c0, m0, d0, x0, x1, x2, h0⟩ := HK 0 (by omega)
        simp only [Nat.zero_mul, Nat.add_zero, Nat.one_mul] at x0 x1 x2
        rw [lk_7]
        exact l3Is_7 n a cap b' off' cap' s hs w1 k0 a0 b0 n0 c0 m0 d0 _ x0 x1 x2 h0

/-- r is as it must be, the text is one that is asked of, and it is like r -/
def isB (S : Sh) (s : ByteArray) : Bool := okR S && (decide ((s.size : Int) ≤ 12) && lkB S (tx s))
theorem okR_form {S : Sh} (h : okR S = true) : formB 8 S = true := by
  simp only [okR, Bool.and_eq_true] at h
  exact h.1

set_option maxRecDepth 100000 in
set_option maxHeartbeats 2000000 in
theorem specMatchIs_any (S : Sh) (M : Mx) (s : ByteArray) (w : World) (hin : In AnyB w S M) (hcnt : cnt S ≤ 1048576) :
    Calls Tryd.prog 14 #[vx S M, .string s] w fun e w' => e = .returned (.bool (isB S s)) ∧ Below w.heap.size w w' := by
  obtain ⟨a, n, c, a', m, c', z1, z2⟩ := hin.slices
  have hv : vx S M = .agg #[.int .i64 S.kind, .slice a n c, .slice a' m c'] := by rw [vx, z1, z2]
  have hB0 : Below w.heap.size w (w.alloc (.cells #[.int .i64 S.kind, .slice a n c, .slice a' m c'] 26)) := (Below.refl _ _).alloc (Nat.le_refl _) _
  have H14 : Hid (Calls Tryd.prog 11 #[vx S M] (w.alloc (.cells #[.int .i64 S.kind, .slice a n c, .slice a' m c'] 26)) fun e w' => e = .returned (.bool (okR S)) ∧ Below (w.alloc (.cells #[.int .i64 S.kind, .slice a n c, .slice a' m c'] 26)).heap.size (w.alloc (.cells #[.int .i64 S.kind, .slice a n c, .slice a' m c'] 26)) w') := specRexOk_any S M _ (hin.below hB0) hcnt
  have HX : Hid (∀ W, Below (w.alloc (.cells #[.int .i64 S.kind, .slice a n c, .slice a' m c'] 26)).heap.size (w.alloc (.cells #[.int .i64 S.kind, .slice a n c, .slice a' m c'] 26)) W → W.cell? ⟨w.heap.size, 0, none⟩ = some (.int .i64 S.kind) ∧ W.cell? ⟨w.heap.size, 1, none⟩ = some (.slice a n c) ∧ W.cell? ⟨w.heap.size, 2, none⟩ = some (.slice a' m c')) := fun W hb =>
    ⟨(hb.cell (p := ⟨_, _, none⟩) (by simp)).trans (by simp [go_sem]), (hb.cell (p := ⟨_, _, none⟩) (by simp)).trans (by simp [go_sem]), (hb.cell (p := ⟨_, _, none⟩) (by simp)).trans (by simp [go_sem])⟩
  rcases Bool.eq_false_or_eq_true (okR S) with hok | hok
  · have H15 : Hid (∀ w1, Calls Tryd.prog 16 #[.string s] w1 fun e w' => e = .returned (.bool (decide ((s.size : Int) ≤ 12))) ∧ w' = w1) := specWord_any s
    by_cases hs : s.size ≤ 12
    · have hd : decide ((s.size : Int) ≤ 12) = true := decide_eq_true (by omega)
      have HR : Hid (isB S s = lkB S (tx s)) := by rw [Hid, isB, hok, hd]; simp
      have H16 : Hid (∀ w1, Below w.heap.size w w1 → Calls Tryd.prog 34 #[vx S M, .string s] w1 fun e w' => e = .returned (.bool (lkB S (tx s))) ∧ Below w1.heap.size w1 w') := fun w1 hb => l3Is_any S 8 M w (okR_form hok) hin hcnt s w1 hs hb
      rw [hok] at H14
      rw [hd] at H15
      rw [hv] at H14 H16 ⊢
      clear hv hin hok hd z1 z2
      go_enter Tryd.func14, Tryd.ntmps14
      go_wp2_with fail
      refine H14.out.mono ?_
      rintro e w1 ⟨rfl, hb1⟩
      go_wp2_with fail
      refine (H15.out _).mono ?_
      rintro e w2 ⟨rfl, hw2⟩
      subst w2
      obtain ⟨x0, x1, x2⟩ := HX.out w1 hb1
      have hB1 := hB0.trans (hb1.mono hB0.size)
      go_wp2_with fail
      refine (H16.out _ hB1).mono ?_
      rintro e w3 ⟨rfl, hb3⟩
      go_wp2_with fail
      go_ret
      exact ⟨ret_bool HR.out.symm, hB1.trans (hb3.mono hB1.size)⟩
    · have hd : decide ((s.size : Int) ≤ 12) = false := decide_eq_false (by omega)
      have HR : Hid (isB S s = false) := by rw [Hid, isB, hok, hd]; simp
      rw [hok] at H14
      rw [hd] at H15
      rw [hv] at H14 ⊢
      clear hv hin hok hd z1 z2
      go_enter Tryd.func14, Tryd.ntmps14
      go_wp2_with fail
      refine H14.out.mono ?_
      rintro e w1 ⟨rfl, hb1⟩
      go_wp2_with fail
      refine (H15.out _).mono ?_
      rintro e w2 ⟨rfl, hw2⟩
      subst w2
      go_wp2_with fail
      go_ret
      exact ⟨ret_bool HR.out.symm, hB0.trans (hb1.mono hB0.size)⟩
  · have HR : Hid (isB S s = false) := by rw [Hid, isB, hok]; simp
    rw [hok] at H14
    rw [hv] at H14 ⊢
    clear hv hin hok z1 z2
    go_enter Tryd.func14, Tryd.ntmps14
    go_wp2_with fail
    refine H14.out.mono ?_
    rintro e w1 ⟨rfl, hb1⟩
    go_wp2_with fail
    go_ret
    exact ⟨ret_bool HR.out.symm, hB0.trans (hb1.mono hB0.size)⟩
end Go.Proofs.YtkbhljpdneibaaaDoor

