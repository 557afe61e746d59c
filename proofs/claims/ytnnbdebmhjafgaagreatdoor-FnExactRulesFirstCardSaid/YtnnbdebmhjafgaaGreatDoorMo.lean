/- the program's MatchIs, and the walk of its law -/
import Derived.Test.YtnnbdebmhjafgaaGreatDoorMn
namespace Go.Proofs.YtnnbdebmhjafgaaGreatDoor
open Go.RowKit
set_option linter.unusedVariables false
set_option linter.unusedSimpArgs false

theorem EB_all (S : Sh) (s : ByteArray) : EB (tx s) S 0 s.size = lkB S (tx s) := by
  have h := tx_size s
  simp [EB, h]

set_option maxRecDepth 100000 in
set_option maxHeartbeats 2000000 in
theorem implMatchIs_any (S : Sh) (M : Mx) (s : ByteArray) (w : World) (t : TypeId) (ea : Addr) (hE : Err w t ea) (hin : In AnyB w S M) (hcnt : cnt S ≤ 1048576) :
    Calls Tryz.prog 17 #[vx S M, .string s] w fun e w' => e = .returned (.bool (isB S s)) ∧ Below w.heap.size w w' := by
  obtain ⟨a, n, c, a', m, c', z1, z2⟩ := hin.slices
  have hv : vx S M = .agg #[.int .i64 S.kind, .slice a n c, .slice a' m c'] := by rw [vx, z1, z2]
  have hB0 : Below w.heap.size w (w.alloc (.cells #[.int .i64 S.kind, .slice a n c, .slice a' m c'] 42)) := (Below.refl _ _).alloc (Nat.le_refl _) _
  have H19 : Hid (Calls Tryz.prog 28 #[vx S M] (w.alloc (.cells #[.int .i64 S.kind, .slice a n c, .slice a' m c'] 42)) fun e w' => e = .returned (.bool (okR S)) ∧ Below (w.alloc (.cells #[.int .i64 S.kind, .slice a n c, .slice a' m c'] 42)).heap.size (w.alloc (.cells #[.int .i64 S.kind, .slice a n c, .slice a' m c'] 42)) w') := implRexOk_any S M _ t ea (hE.below hB0) (hin.below hB0) hcnt
  have HX : Hid (∀ W, Below (w.alloc (.cells #[.int .i64 S.kind, .slice a n c, .slice a' m c'] 42)).heap.size (w.alloc (.cells #[.int .i64 S.kind, .slice a n c, .slice a' m c'] 42)) W → W.cell? ⟨w.heap.size, 0, none⟩ = some (.int .i64 S.kind) ∧ W.cell? ⟨w.heap.size, 1, none⟩ = some (.slice a n c) ∧ W.cell? ⟨w.heap.size, 2, none⟩ = some (.slice a' m c')) := fun W hb =>
    ⟨(hb.cell (p := ⟨_, _, none⟩) (by simp)).trans (by simp [go_sem]), (hb.cell (p := ⟨_, _, none⟩) (by simp)).trans (by simp [go_sem]), (hb.cell (p := ⟨_, _, none⟩) (by simp)).trans (by simp [go_sem])⟩
  rcases Bool.eq_false_or_eq_true (okR S) with hok | hok
  · have H20 : Hid (∀ w1, Calls Tryz.prog 29 #[.string s] w1 fun e w' => e = .returned (.bool (decide ((s.size : Int) ≤ 12))) ∧ w' = w1) := implWord_any s
    by_cases hs : s.size ≤ 12
    · have hd : decide ((s.size : Int) ≤ 12) = true := decide_eq_true (by omega)
      have HR : Hid (isB S s = lkB S (tx s)) := by rw [Hid, isB, hok, hd]; simp
      have H21 : Hid (∀ w1, Below w.heap.size w w1 → Calls Tryz.prog 30 #[vx S M, .string s] w1 fun e w' => e = .returned (.int .u16 (pw (EB (tx s) S 0))) ∧ Below w1.heap.size w1 w') := fun w1 hb => endsOf_any S M s hs 8 (okR_form hok) w1 (hin.below hb) hcnt
      have H22 : Hid (∀ w1, Calls Tryz.prog 31 #[.int .u16 (pw (EB (tx s) S 0)), .int .i64 (s.size : Int)] w1 fun e w' => e = .returned (.bool (lkB S (tx s))) ∧ w' = w1) := fun w1 => by
        have h := has_any (EB (tx s) S 0) s.size (by omega) w1
        rw [EB_all] at h
        exact h
      rw [hok] at H19
      rw [hd] at H20
      rw [hv] at H19 H21 ⊢
      clear hE hv hin hok hd z1 z2
      go_enter Tryz.func17, Tryz.ntmps17
      go_wp2_with fail
      refine H19.out.mono ?_
      rintro e w1 ⟨rfl, hb1⟩
      go_wp2_with fail
      refine (H20.out _).mono ?_
      rintro e w2 ⟨rfl, hw2⟩
      subst w2
      obtain ⟨x0, x1, x2⟩ := HX.out w1 hb1
      have hB1 := hB0.trans (hb1.mono hB0.size)
      go_wp2_with fail
      refine (H21.out _ hB1).mono ?_
      rintro e w3 ⟨rfl, hb3⟩
      go_wp2_with fail
      refine (H22.out _).mono ?_
      rintro e w4 ⟨rfl, hw4⟩
      subst w4
      go_wp2_with fail
      go_ret
      exact ⟨ret_bool HR.out.symm, hB1.trans (hb3.mono hB1.size)⟩
    · have hd : decide ((s.size : Int) ≤ 12) = false := decide_eq_false (by omega)
      have HR : Hid (isB S s = false) := by rw [Hid, isB, hok, hd]; simp
      rw [hok] at H19
      rw [hd] at H20
      rw [hv] at H19 ⊢
      clear hE hv hin hok hd z1 z2
      go_enter Tryz.func17, Tryz.ntmps17
      go_wp2_with fail
      refine H19.out.mono ?_
      rintro e w1 ⟨rfl, hb1⟩
      go_wp2_with fail
      refine (H20.out _).mono ?_
      rintro e w2 ⟨rfl, hw2⟩
      subst w2
      go_wp2_with fail
      go_ret
      exact ⟨ret_bool HR.out.symm, hB0.trans (hb1.mono hB0.size)⟩
  · have HR : Hid (isB S s = false) := by rw [Hid, isB, hok]; simp
    rw [hok] at H19
    rw [hv] at H19 ⊢
    clear hE hv hin hok z1 z2
    go_enter Tryz.func17, Tryz.ntmps17
    go_wp2_with fail
    refine H19.out.mono ?_
    rintro e w1 ⟨rfl, hb1⟩
    go_wp2_with fail
    go_ret
    exact ⟨ret_bool HR.out.symm, hB0.trans (hb1.mono hB0.size)⟩
/-- a Rex as a value, its two slices told -/
theorem In.value {B : Nat → Prop} {w : World} {S : Sh} {M : Mx} (h : In B w S M) : ∃ (a : Option Addr) (n c : Nat) (a' : Option Addr) (m c' : Nat), vx S M = .agg #[.int .i64 S.kind, .slice a n c, .slice a' m c'] := by
  obtain ⟨a, n, c, a', m, c', e1, e2⟩ := h.slices
  exact ⟨a, n, c, a', m, c', by rw [vx, e1, e2]⟩
theorem In.any {B : Nat → Prop} {w : World} {S : Sh} {M : Mx} (h : In B w S M) : In AnyB w S M := h.mono (fun _ _ => trivial)

end Go.Proofs.YtnnbdebmhjafgaaGreatDoor

