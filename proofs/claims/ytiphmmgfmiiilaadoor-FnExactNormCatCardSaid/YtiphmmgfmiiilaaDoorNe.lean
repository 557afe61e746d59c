/- What a Rex comes to by the rules of chapter 4 that look at it alone, and the walks of the model's l4No, l4Star, l4Not, l4Deep, NormStar, NormNot. -/
import Derived.Test.YtiphmmgfmiiilaaDoorNd
import Derived.Test.YtiphmmgfmiiilaaDoorTf
namespace Go.Proofs.YtiphmmgfmiiilaaDoor
open Go.RowKit
set_option linter.unusedVariables false
set_option linter.unusedSimpArgs false

/-- a set of no bytes -/
def noB (S : Sh) : Bool := S.kind == 1 && S.n == 0
/-- one of that kind, without set and kids -/
def zeroS (k : Int) : Sh := .mk k 0 (fun _ => 0) (fun _ => 0) 0 (fun _ => leafS 0 0 (fun _ => 0) (fun _ => 0))
theorem zeroS_cnt (k : Int) : cnt (zeroS k) = 0 := by simp [zeroS, cnt_mk, sumN]
theorem cnt_at (S : Sh) : cnt S = S.n + S.m + sumN (fun i => cnt (S.kidAt i)) S.m := by
  obtain ⟨kind, n, L, H, m, kids⟩ := S
  simp only [cnt]
  rw [sumN_congr (g := fun i => cnt ((Sh.node kind n L H m kids).kidAt i)) (fun i hi => by rw [dif_pos hi, Sh.kidAt, dif_pos (show i < (Sh.node kind n L H m kids).m from hi)])]
theorem kid_cnt (S : Sh) {i : Nat} (hi : i < S.m) : cnt (S.kidAt i) + 1 ≤ cnt S := by
  have := sumN_at (f := fun i => cnt (S.kidAt i)) hi
  rw [cnt_at S]
  omega
/-- one without set and kids lies anywhere -/
theorem zero_in (B : Nat → Prop) (w : World) (k : Int) : In B w (zeroS k) Mx.no :=
  ⟨none, 0, 0, 0, none, 0, 0, 0, rfl, fun h => absurd h (Nat.lt_irrefl _), fun i hi => absurd hi (Nat.not_lt_zero _), by omega, rfl, fun h => absurd h (Nat.lt_irrefl _), by omega, fun i hi => absurd hi (Nat.not_lt_zero _)⟩
theorem zero_own (lo : Nat) (w : World) (k : Int) : Own lo w (zeroS k) Mx.no := ⟨zero_in _ w k, by rw [zeroS, bl_mk]; simp⟩
theorem below_two (w : World) (o1 o2 : Obj) : Below w.heap.size w ((w.alloc o1).alloc o2) := (below_new _ _).trans ((below_new _ _).mono (by rw [size_new]; omega))
theorem beq0 (n : Nat) : ((n : Int) == 0) = (n == 0) := by
  rw [Bool.eq_iff_iff]; simp
theorem In.value' {B : Nat → Prop} {w : World} {S : Sh} {M : Mx} (h : In B w S M) : ∃ (a : Option Addr) (c : Nat) (a' : Option Addr) (c' : Nat), vx S M = .agg #[.int .i64 S.kind, .slice a S.n c, .slice a' S.m c'] := by
  obtain ⟨a, b, off, cap, a', b', off', cap', e1, _, _, _, e2, _⟩ := h.parts
  exact ⟨a, cap, a', cap', by rw [vx, e1, e2]⟩

set_option maxHeartbeats 1000000 in
theorem l4No_any (S : Sh) (M : Mx) (w : World) (h : In AnyB w S M) : Calls Tryd.prog 28 #[vx S M] w fun e w' => e = .returned (.bool (noB S)) ∧ Below w.heap.size w w' := by
  obtain ⟨a, c, a', c', hv⟩ := h.value'
  rw [hv]
  have HR : Hid (noB S = (S.kind == 1 && S.n == 0)) := rfl
  obtain ⟨kd, hkd⟩ : ∃ kd, S.kind = kd := ⟨_, rfl⟩
  obtain ⟨n, hn⟩ : ∃ n, S.n = n := ⟨_, rfl⟩
  obtain ⟨m, hm⟩ : ∃ m, S.m = m := ⟨_, rfl⟩
  rw [hkd, hn] at HR
  rw [hkd, hn, hm]
  clear hkd hn hm hv h
  by_cases h1 : kd = 1
  · have hk1 : (kd == 1) = true := by simpa using h1
    have H1 : Hid (kd = 1) := h1
    clear h1
    go_enter Tryd.func28, Tryd.ntmps28
    go_wp2_with fail
    go_ret
    exact ⟨ret_bool (by rw [HR.out, H1.out, beq0]; simp), (Below.refl _ _).alloc (Nat.le_refl _) _⟩
  · have hk1 : (kd == 1) = false := by simpa using h1
    go_enter Tryd.func28, Tryd.ntmps28
    go_wp2_with fail
    go_ret
    exact ⟨ret_bool (by rw [HR.out, hk1]; rfl), (Below.refl _ _).alloc (Nat.le_refl _) _⟩

set_option maxHeartbeats 1000000 in
theorem l4Deep_any (S : Sh) (M : Mx) (w : World) (h : In AnyB w S M) (hcnt : cnt S ≤ 1048576) : Calls Tryd.prog 13 #[vx S M] w fun e w' => e = .returned (.bool (formB 60 S)) ∧ Below w.heap.size w w' := by
  have H1 : Hid (∀ w1, Below w.heap.size w w1 → Calls Tryd.prog 27 #[vx S M, .int .i64 60] w1 fun e w' => e = .returned (.bool (formB 60 S)) ∧ Below w1.heap.size w1 w') := fun w1 hb => l2Form_any 60 S M 60 w1 (h.below hb) hcnt rfl (by omega)
  obtain ⟨a, c, a', c', hv⟩ := h.value'
  rw [hv] at H1 ⊢
  obtain ⟨fb, hfb⟩ : ∃ fb, formB 60 S = fb := ⟨_, rfl⟩
  rw [hfb] at H1 ⊢
  have hb0 : Below w.heap.size w (w.alloc (.cells #[.int .i64 S.kind, .slice a S.n c, .slice a' S.m c'] 30)) := below_new _ _
  clear hv hfb h
  go_enter Tryd.func13, Tryd.ntmps13
  go_wp2_with fail
  refine (H1.out _ hb0).mono ?_
  rintro e w1 ⟨rfl, hb1⟩
  go_wp2_with fail
  go_ret
  exact ⟨rfl, hb0.trans (hb1.mono hb0.size)⟩

end Go.Proofs.YtiphmmgfmiiilaaDoor

