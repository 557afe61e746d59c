/- l3Is at every Rex, and the model's MatchIs -/
import Derived.Test.YtnnbdebmhjafgaaGreatDoorMe
namespace Go.Proofs.YtnnbdebmhjafgaaGreatDoor
open Go.RowKit
set_option linter.unusedVariables false
set_option linter.unusedSimpArgs false

theorem good_kids {kind : Int} {n : Nat} {L H : Nat → Int} {m : Nat} (h : goodB kind n L H m = true) : kidsOf kind = (m : Int) := by
  simp only [goodB, Bool.and_eq_true, beq_iff_eq] at h
  exact h.1.1
theorem form_kid {d : Nat} {kind : Int} {n : Nat} {L H : Nat → Int} {m : Nat} {K : Nat → Sh} (h : formB (d + 1) (.mk kind n L H m K) = true) : goodB kind n L H m = true ∧ ∀ i, i < m → formB d (K i) = true := by
  simp only [formB_mk, Bool.and_eq_true, List.all_eq_true, List.mem_range] at h
  exact h
theorem kids_cases {kind : Int} {m : Nat} (h : kidsOf kind = (m : Int)) : (kind = 1 ∧ m = 0) ∨ (kind = 2 ∧ m = 0) ∨ (kind = 3 ∧ m = 2) ∨ (kind = 4 ∧ m = 2) ∨ (kind = 5 ∧ m = 1) ∨ (kind = 6 ∧ m = 2) ∨ (kind = 7 ∧ m = 1) := by
  unfold kidsOf at h
  split at h
  · omega
  · split at h
    · omega
    · split at h <;> omega

theorem l3Is_any (S : Sh) : ∀ (d : Nat) (M : Mx) (w : World), formB d S = true → In AnyB w S M → cnt S ≤ 1048576 → L3 w (vx S M) (lkB S) := by
  induction S using Sh.ind with
  | h kind n L H m K ih =>
    intro d M w hf hin hcnt s w1 hs hb1
    replace hin := hin.below hb1
    cases d with
    | zero => simp [formB] at hf
    | succ d =>
      obtain ⟨hg, hk⟩ := form_kid hf
      obtain ⟨sv, kv, M, rfl⟩ := Mx.cases M
      obtain ⟨a, b, off, cap, a', b', off', cap', e1, hn, hsp, hl, e2, hm, hl', hkid⟩ := hin
      obtain rfl : sv = _ := e1
      obtain rfl : kv = _ := e2
      simp only [Mx.mk_kid] at hkid
      simp only [vx, Sh.mk_kind, Mx.mk_sv, Mx.mk_kv]
      simp only [cnt_mk] at hcnt
      have HK : ∀ i, i < m → ∃ (k0 : Int) (a0 b0 : Option Addr) (n0 c0 m0 d0 : Nat), w1.cell? ⟨b', off' + i * 3, none⟩ = some (.int .i64 k0) ∧ w1.cell? ⟨b', off' + i * 3 + 1, none⟩ = some (.slice a0 n0 c0) ∧ w1.cell? ⟨b', off' + i * 3 + 2, none⟩ = some (.slice b0 m0 d0) ∧
          L3 w1 (.agg #[.int .i64 k0, .slice a0 n0 c0, .slice b0 m0 d0]) (lkB (K i)) := fun i hi => by
        obtain ⟨⟨x0, x1, x2⟩, hin0⟩ := hkid i hi
        have h3 := ih i hi d (M i) w1 (hk i hi) hin0 (by have := sumN_at (f := fun i => cnt (K i)) hi; omega)
        obtain ⟨p, q, r, p', q', r', z1, z2⟩ := hin0.slices
        rw [z1] at x1
        rw [z2] at x2
        rw [vx, z1, z2] at h3
        exact ⟨_, _, _, _, _, _, _, x0, x1, x2, h3⟩
      rcases kids_cases (good_kids hg) with ⟨rfl, rfl⟩ | ⟨rfl, rfl⟩ | ⟨rfl, rfl⟩ | ⟨rfl, rfl⟩ | ⟨rfl, rfl⟩ | ⟨rfl, rfl⟩ | ⟨rfl, rfl⟩
      · exact l3Is_1 n L H 0 K a b off cap a' cap' s hs w1 (fun h => (hn h).1) hsp (by omega)
      · exact l3Is_2 n L H 0 K a cap a' cap' s w1
      · obtain rfl := (hm (by omega)).1
        obtain ⟨k0, a0, b0, n0, c0, m0, d0, x0, x1, x2, h0⟩ := HK 0 (by omega)
        obtain ⟨k1, a1, b1, n1, c1, m1, d1, y0, y1, y2, h1⟩ := HK 1 (by omega)
        simp only [Nat.zero_mul, Nat.add_zero, Nat.one_mul] at x0 x1 x2 y0 y1 y2
        rw [lk_3]
        exact l3Is_3 n a cap b' off' cap' s hs w1 k0 a0 b0 n0 c0 m0 d0 _ x0 x1 x2 h0 k1 a1 b1 n1 c1 m1 d1 _ y0 y1 y2 h1
      · obtain rfl := (hm (by omega)).1
        obtain ⟨k0, a0, b0, n0, c0, m0, d0, x0, x1, x2, h0⟩ := HK 0 (by omega)
        obtain ⟨k1, a1, b1, n1, c1, m1, d1, y0, y1, y2, h1⟩ := HK 1 (by omega)
        simp only [Nat.zero_mul, Nat.add_zero, Nat.one_mul] at x0 x1 x2 y0 y1 y2
        rw [lk_4]
        exact l3Is_4 n a cap b' off' cap' s hs w1 k0 a0 b0 n0 c0 m0 d0 _ x0 x1 x2 h0 k1 a1 b1 n1 c1 m1 d1 _ y0 y1 y2 h1
      · obtain rfl := (hm (by omega)).1
        obtain ⟨k0, a0, b0, n0, c0, m0, d0, x0, x1, x2, h0⟩ := HK 0 (by omega)
        simp only [Nat.zero_mul, Nat.add_zero, Nat.one_mul] at x0 x1 x2
        rw [lk_5]
        exact l3Is_5 n a cap b' off' cap' s hs w1 k0 a0 b0 n0 c0 m0 d0 _ x0 x1 x2 h0
      · obtain rfl := (hm (by omega)).1
        obtain ⟨k0, a0, b0, n0, c0, m0, d0, x0, x1, x2, h0⟩ := HK 0 (by omega)
        obtain ⟨k1, a1, b1, n1, c1, m1, d1, y0, y1, y2, h1⟩ := HK 1 (by omega)
        simp only [Nat.zero_mul, Nat.add_zero, Nat.one_mul] at x0 x1 x2 y0 y1 y2
        rw [lk_6]
        exact l3Is_6 n a cap b' off' cap' s hs w1 k0 a0 b0 n0 c0 m0 d0 _ x0 x1 x2 h0 k1 a1 b1 n1 c1 m1 d1 _ y0 y1 y2 h1
      · obtain rfl := (hm (by omega)).1
        obtain ⟨k0, a0, b0, n0, c0, m0, d0, x0, x1, x2, h0⟩ := HK 0 (by omega)
        simp only [Nat.zero_mul, Nat.add_zero, Nat.one_mul] at x0 x1 x2
        rw [lk_7]
        exact l3Is_7 n a cap b' off' cap' s hs w1 k0 a0 b0 n0 c0 m0 d0 _ x0 x1 x2 h0

/-- r is as it must be, the text is one that is asked of, and it is like r -/
def isB (S : Sh) (s : ByteArray) : Bool := okR S && (decide ((s.size : Int) ≤ 12) && lkB S (tx s))
theorem okR_form {S : Sh} (h : okR S = true) : formB 8 S = true := by
  simp only [okR, Bool.and_eq_true] at h
  exact h.1

end Go.Proofs.YtnnbdebmhjafgaaGreatDoor

