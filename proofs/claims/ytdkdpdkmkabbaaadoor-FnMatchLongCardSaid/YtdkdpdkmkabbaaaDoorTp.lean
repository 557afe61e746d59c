/- the walks of l2Null, isNull and the two RexNull -/
import Derived.Test.YtdkdpdkmkabbaaaDoorMn
import Derived.Test.YtdkdpdkmkabbaaaDoorTm
namespace Go.Proofs.YtdkdpdkmkabbaaaDoor
open Go.RowKit
set_option linter.unusedVariables false
set_option linter.unusedSimpArgs false

theorem EB_all (S : Sh) (s : ByteArray) : EB (tx s) S 0 s.size = lkB S (tx s) := by
  have h := tx_size s
  simp [EB, h]

set_option maxRecDepth 100000 in
set_option maxHeartbeats 2000000 in
theorem implMatchIs_any (S : Sh) (M : Mx) (s : ByteArray) (w : World) (t : TypeId) (ea : Addr) (hE : Err w t ea) (hin : In AnyB w S M) (hcnt : cnt S ≤ 1048576) :
    Calls Tryd.prog 9 #[vx S M, .string s] w fun e w' => e = .returned (.bool (isB S s)) ∧ Below w.heap.size w w' := by
  obtain ⟨a, n, c, a', m, c', z1, z2⟩ := hin.slices
  have hv : vx S M = .agg #[.int .i64 S.kind, .slice a n c, .slice a' m c'] := by rw [vx, z1, z2]
  have hB0 : Below w.heap.size w (w.alloc (.cells #[.int .i64 S.kind, .slice a n c, .slice a' m c'] 26)) := (Below.refl _ _).alloc (Nat.le_refl _) _
  have H19 : Hid (Calls Tryd.prog 16 #[vx S M] (w.alloc (.cells #[.int .i64 S.kind, .slice a n c, .slice a' m c'] 26)) fun e w' => e = .returned (.bool (okR S)) ∧ Below (w.alloc (.cells #[.int .i64 S.kind, .slice a n c, .slice a' m c'] 26)).heap.size (w.alloc (.cells #[.int .i64 S.kind, .slice a n c, .slice a' m c'] 26)) w') := implRexOk_any S M _ t ea (hE.below hB0) (hin.below hB0) hcnt
  have HX : Hid (∀ W, Below (w.alloc (.cells #[.int .i64 S.kind, .slice a n c, .slice a' m c'] 26)).heap.size (w.alloc (.cells #[.int .i64 S.kind, .slice a n c, .slice a' m c'] 26)) W → W.cell? ⟨w.heap.size, 0, none⟩ = some (.int .i64 S.kind) ∧ W.cell? ⟨w.heap.size, 1, none⟩ = some (.slice a n c) ∧ W.cell? ⟨w.heap.size, 2, none⟩ = some (.slice a' m c')) := fun W hb =>
    ⟨(hb.cell (p := ⟨_, _, none⟩) (by simp)).trans (by simp [go_sem]), (hb.cell (p := ⟨_, _, none⟩) (by simp)).trans (by simp [go_sem]), (hb.cell (p := ⟨_, _, none⟩) (by simp)).trans (by simp [go_sem])⟩
  rcases Bool.eq_false_or_eq_true (okR S) with hok | hok
  · have H20 : Hid (∀ w1, Calls Tryd.prog 17 #[.string s] w1 fun e w' => e = .returned (.bool (decide ((s.size : Int) ≤ 12))) ∧ w' = w1) := implWord_any s
    by_cases hs : s.size ≤ 12
    · have hd : decide ((s.size : Int) ≤ 12) = true := decide_eq_true (by omega)
      have HR : Hid (isB S s = lkB S (tx s)) := by rw [Hid, isB, hok, hd]; simp
      have H21 : Hid (∀ w1, Below w.heap.size w w1 → Calls Tryd.prog 18 #[vx S M, .string s] w1 fun e w' => e = .returned (.int .u16 (pw (EB (tx s) S 0))) ∧ Below w1.heap.size w1 w') := fun w1 hb => endsOf_any S M s hs 8 (okR_form hok) w1 (hin.below hb) hcnt
      have H22 : Hid (∀ w1, Calls Tryd.prog 24 #[.int .u16 (pw (EB (tx s) S 0)), .int .i64 (s.size : Int)] w1 fun e w' => e = .returned (.bool (lkB S (tx s))) ∧ w' = w1) := fun w1 => by
        have h := has_any (EB (tx s) S 0) s.size (by omega) w1
        rw [EB_all] at h
        exact h
      rw [hok] at H19
      rw [hd] at H20
      rw [hv] at H19 H21 ⊢
      clear hE hv hin hok hd z1 z2
      go_enter Tryd.func9, Tryd.ntmps9
      go_wp2_with fail
      refine H19.out.mono ?_
      rintro e w1 ⟨rfl, hb1⟩
      go_wp2_with fail
      refine (H20.out _).mono ?_
      rintro e w2 ⟨rfl, hw2⟩
      subst w2
      obtain ⟨x0, x1, x2⟩ := HX.out w1 hb1
      have hB1 := hB0.trans (hb1.mono hB0.size)
      go_wp2_with fail
      refine (H21.out _ hB1).mono ?_
      rintro e w3 ⟨rfl, hb3⟩
      go_wp2_with fail
      refine (H22.out _).mono ?_
      rintro e w4 ⟨rfl, hw4⟩
      subst w4
      go_wp2_with fail
      go_ret
      exact ⟨ret_bool HR.out.symm, hB1.trans (hb3.mono hB1.size)⟩
    · have hd : decide ((s.size : Int) ≤ 12) = false := decide_eq_false (by omega)
      have HR : Hid (isB S s = false) := by rw [Hid, isB, hok, hd]; simp
      rw [hok] at H19
      rw [hd] at H20
      rw [hv] at H19 ⊢
      clear hE hv hin hok hd z1 z2
      go_enter Tryd.func9, Tryd.ntmps9
      go_wp2_with fail
      refine H19.out.mono ?_
      rintro e w1 ⟨rfl, hb1⟩
      go_wp2_with fail
      refine (H20.out _).mono ?_
      rintro e w2 ⟨rfl, hw2⟩
      subst w2
      go_wp2_with fail
      go_ret
      exact ⟨ret_bool HR.out.symm, hB0.trans (hb1.mono hB0.size)⟩
  · have HR : Hid (isB S s = false) := by rw [Hid, isB, hok]; simp
    rw [hok] at H19
    rw [hv] at H19 ⊢
    clear hE hv hin hok z1 z2
    go_enter Tryd.func9, Tryd.ntmps9
    go_wp2_with fail
    refine H19.out.mono ?_
    rintro e w1 ⟨rfl, hb1⟩
    go_wp2_with fail
    go_ret
    exact ⟨ret_bool HR.out.symm, hB0.trans (hb1.mono hB0.size)⟩
/-- a Rex as a value, its two slices told -/
theorem In.value {B : Nat → Prop} {w : World} {S : Sh} {M : Mx} (h : In B w S M) : ∃ (a : Option Addr) (n c : Nat) (a' : Option Addr) (m c' : Nat), vx S M = .agg #[.int .i64 S.kind, .slice a n c, .slice a' m c'] := by
  obtain ⟨a, n, c, a', m, c', e1, e2⟩ := h.slices
  exact ⟨a, n, c, a', m, c', by rw [vx, e1, e2]⟩
theorem In.any {B : Nat → Prop} {w : World} {S : Sh} {M : Mx} (h : In B w S M) : In AnyB w S M := h.mono (fun _ _ => trivial)

end Go.Proofs.YtdkdpdkmkabbaaaDoor
namespace Go.Proofs.YtdkdpdkmkabbaaaDoor
open Go.RowKit Go.Shelf
set_option linter.unusedVariables false
set_option linter.unusedSimpArgs false

/-- the empty text is like it -/
def nullR : Sh → Bool
  | .node kind _ _ _ m kids =>
    if kind = 2 ∨ kind = 5 then true
    else if kind = 3 ∨ kind = 6 then (if hi : 0 < m then nullR (kids ⟨0, hi⟩) else false) && (if hi : 1 < m then nullR (kids ⟨1, hi⟩) else false)
    else if kind = 4 then (if hi : 0 < m then nullR (kids ⟨0, hi⟩) else false) || (if hi : 1 < m then nullR (kids ⟨1, hi⟩) else false)
    else if kind = 7 then !(if hi : 0 < m then nullR (kids ⟨0, hi⟩) else false)
    else false
theorem null_1 (n : Nat) (L H : Nat → Int) (m : Nat) (K : Nat → Sh) : nullR (.mk 1 n L H m K) = false := by simp [Sh.mk, nullR]
theorem null_2 (n : Nat) (L H : Nat → Int) (m : Nat) (K : Nat → Sh) : nullR (.mk 2 n L H m K) = true := by simp [Sh.mk, nullR]
theorem null_5 (n : Nat) (L H : Nat → Int) (m : Nat) (K : Nat → Sh) : nullR (.mk 5 n L H m K) = true := by simp [Sh.mk, nullR]
theorem null_3 (n : Nat) (L H : Nat → Int) (K : Nat → Sh) : nullR (.mk 3 n L H 2 K) = (nullR (K 0) && nullR (K 1)) := by simp [Sh.mk, nullR]
theorem null_6 (n : Nat) (L H : Nat → Int) (K : Nat → Sh) : nullR (.mk 6 n L H 2 K) = (nullR (K 0) && nullR (K 1)) := by simp [Sh.mk, nullR]
theorem null_4 (n : Nat) (L H : Nat → Int) (K : Nat → Sh) : nullR (.mk 4 n L H 2 K) = (nullR (K 0) || nullR (K 1)) := by simp [Sh.mk, nullR]
theorem null_7 (n : Nat) (L H : Nat → Int) (K : Nat → Sh) : nullR (.mk 7 n L H 1 K) = !nullR (K 0) := by simp [Sh.mk, nullR]

/-- a Rex as a value, its two slices told -/
theorem In.valueN {B : Nat → Prop} {w : World} {S : Sh} {M : Mx} (h : In B w S M) : ∃ (a : Option Addr) (n c : Nat) (a' : Option Addr) (m c' : Nat), vx S M = .agg #[.int .i64 S.kind, .slice a n c, .slice a' m c'] := by
  obtain ⟨a, n, c, a', m, c', e1, e2⟩ := h.slices
  exact ⟨a, n, c, a', m, c', by rw [vx, e1, e2]⟩
/-- it is as it must be, and the empty text is like it -/
def isNullR (S : Sh) : Bool := okR S && nullR S

theorem good_kidsN {kind : Int} {n : Nat} {L H : Nat → Int} {m : Nat} (h : goodB kind n L H m = true) : kidsOf kind = (m : Int) := by
  simp only [goodB, Bool.and_eq_true, beq_iff_eq] at h
  exact h.1.1
theorem form_kidN {d : Nat} {kind : Int} {n : Nat} {L H : Nat → Int} {m : Nat} {K : Nat → Sh} (h : formB (d + 1) (.mk kind n L H m K) = true) : goodB kind n L H m = true ∧ ∀ i, i < m → formB d (K i) = true := by
  simp only [formB_mk, Bool.and_eq_true, List.all_eq_true, List.mem_range] at h
  exact h

end Go.Proofs.YtdkdpdkmkabbaaaDoor

