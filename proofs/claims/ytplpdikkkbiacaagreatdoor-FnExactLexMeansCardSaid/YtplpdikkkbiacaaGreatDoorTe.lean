/- the model's SetOk, which only reads; l2Kids -/
import Derived.Test.YtplpdikkkbiacaaGreatDoorTc
namespace Go.Proofs.YtplpdikkkbiacaaGreatDoor
open Go.RowKit
set_option linter.unusedVariables false
set_option linter.unusedSimpArgs false

theorem eqB_self (n : Nat) (L H : Nat → Int) : eqB n L H n L H = true := eqB_all (fun i _ => ⟨rfl, rfl⟩)

set_option maxHeartbeats 1000000 in
theorem eqRexS_of (m : Nat) (K : Nat → Sh) (M M' : Nat → Mx) (hm : m ≤ 1048576)
    (ih : ∀ i, i < m → ∀ (w : World), In AnyB w (K i) (M i) → In AnyB w (K i) (M' i) → Calls Tryz.prog 38 #[vx (K i) (M i), vx (K i) (M' i)] w fun e w' => e = .returned (.bool true) ∧ Below w.heap.size w w')
    (a : Option Addr) (b off cap : Nat) (a' : Option Addr) (b' off' cap' : Nat) (w : World) (hga : 0 < m → a = some ⟨b, off, none⟩) (hk : ∀ i, i < m → Kid w b (off + i * 3) (K i) (M i) ∧ In AnyB w (K i) (M i))
    (hga' : 0 < m → a' = some ⟨b', off', none⟩) (hk2 : ∀ i, i < m → Kid w b' (off' + i * 3) (K i) (M' i) ∧ In AnyB w (K i) (M' i)) :
    Calls Tryz.prog 53 #[.slice a m cap, .slice a' m cap'] w fun e w' => e = .returned (.bool true) ∧ Below w.heap.size w w' := by
  have hnn : ((m : Int) != (m : Int)) = false := by simp
  go_enter Tryz.func53, Tryz.ntmps53
  go_wp2_with fail
  go_loopw [5] (fun i wr => ∃ k : Nat, k ≤ m ∧ i = .int .i64 k ∧ Below w.heap.size w wr) (fun i _ => m - (intOf i).toNat)
  case atStart => exact ⟨0, Nat.zero_le _, rfl, Below.refl _ _⟩
  case round =>
    obtain ⟨k, hk', rfl, hB⟩ := hrel
    by_cases hlt : k < m
    · obtain rfl := hga (by omega)
      obtain rfl := hga' (by omega)
      have hltz : (k : Int) < (m : Int) := by omega
      obtain ⟨⟨c1, c2, c3⟩, hin⟩ := hk k hlt
      obtain ⟨⟨x1, x2, x3⟩, hin'⟩ := hk2 k hlt
      have d1 : wr.cell? ⟨b, off + k * 3, none⟩ = _ := (hB.cell (p := ⟨b, _, none⟩) (World.block_lt_of_cell? _ _ c1)).trans c1
      have d2 : wr.cell? ⟨b, off + k * 3 + 1, none⟩ = _ := (hB.cell (p := ⟨b, _, none⟩) (World.block_lt_of_cell? _ _ c2)).trans c2
      have d3 : wr.cell? ⟨b, off + k * 3 + 2, none⟩ = _ := (hB.cell (p := ⟨b, _, none⟩) (World.block_lt_of_cell? _ _ c3)).trans c3
      have y1 : wr.cell? ⟨b', off' + k * 3, none⟩ = _ := (hB.cell (p := ⟨b', _, none⟩) (World.block_lt_of_cell? _ _ x1)).trans x1
      have y2 : wr.cell? ⟨b', off' + k * 3 + 1, none⟩ = _ := (hB.cell (p := ⟨b', _, none⟩) (World.block_lt_of_cell? _ _ x2)).trans x2
      have y3 : wr.cell? ⟨b', off' + k * 3 + 2, none⟩ = _ := (hB.cell (p := ⟨b', _, none⟩) (World.block_lt_of_cell? _ _ x3)).trans x3
      have HC : Hid (Calls Tryz.prog 38 #[vx (K k) (M k), vx (K k) (M' k)] wr.drew fun e w' => e = .returned (.bool true) ∧ Below wr.drew.heap.size wr.drew w') := ih k hlt wr.drew ((hin.below hB).below (Below.refl _ _).drew) ((hin'.below hB).below (Below.refl _ _).drew)
      clear c1 c2 c3 x1 x2 x3
      simp only [vx] at HC
      go_wp2_with fail
      go_region_with (go_at_call 38; refine HC.out.mono ?_; rintro e w1 ⟨rfl, hb1⟩)
      all_goals go_wp2_with fail
      all_goals
        go_roundw
        case rel => exact ⟨k + 1, by omega, by go_num, hB.drew.trans (hb1.mono hB.size)⟩
        case measure => simp [intOf]; omega
    · go_wp2_with fail
      go_ret
      exact ⟨rfl, hB⟩

set_option maxHeartbeats 1000000 in
theorem eqRex_same (S : Sh) : ∀ (M M' : Mx) (w : World), In AnyB w S M → In AnyB w S M' → cnt S ≤ 1048576 →
    Calls Tryz.prog 38 #[vx S M, vx S M'] w fun e w' => e = .returned (.bool true) ∧ Below w.heap.size w w' := by
  induction S using Sh.ind with
  | h kind n L H m K ih =>
    intro M M' w h h' hcnt
    obtain ⟨sv, kv, M, rfl⟩ := Mx.cases M
    · skip
      obtain ⟨sv', kv', M', rfl⟩ := Mx.cases M'
      · skip
        obtain ⟨a, b, off, cap, a', b', off', cap', e1, hn, hs, hl, e2, hm, hl', hk⟩ := h
        obtain rfl : sv = _ := e1
        obtain rfl : kv = _ := e2
        simp only [Mx.mk_kid] at hk
        obtain ⟨a2, b2, off2, cap2, a2', b2', off2', cap2', e1, hn2, hs2, hl2, e2, hm2, hl2', hk2⟩ := h'
        obtain rfl : sv' = _ := e1
        obtain rfl : kv' = _ := e2
        simp only [Mx.mk_kid] at hk2
        simp only [vx, Sh.mk_kind, Mx.mk_sv, Mx.mk_kv]
        simp only [cnt_mk] at hcnt
        have H1 : Hid (∀ w1, Below w.heap.size w w1 → Calls Tryz.prog 52 #[.slice a n cap, .slice a2 n cap2] w1 fun e w' => e = .returned (.bool true) ∧ Below w1.heap.size w1 w') := fun w1 hb1 => by
          have := eqSpanS_any a a2 b off cap n b2 off2 cap2 n L H L H w1 (fun h => (hn h).1) (hs.below hb1) (fun h => (hn2 h).1) (hs2.below hb1) (by omega) (by omega)
          rwa [eqB_self] at this
        have H2 : Hid (∀ w1, Below w.heap.size w w1 → Calls Tryz.prog 53 #[.slice a' m cap', .slice a2' m cap2'] w1 fun e w' => e = .returned (.bool true) ∧ Below w1.heap.size w1 w') := fun w1 hb1 =>
          eqRexS_of m K M M' (by omega) (fun i hi w2 h2 h3 => ih i hi (M i) (M' i) w2 h2 h3 (by have := sumN_at (f := fun i => cnt (K i)) hi; omega)) a' b' off' cap' a2' b2' off2' cap2' w1 (fun h => (hm h).1)
            (fun i hi => ⟨(hk i hi).1.keep (fun hlt => hb1.block _ hlt), (hk i hi).2.below hb1⟩) (fun h => (hm2 h).1) (fun i hi => ⟨(hk2 i hi).1.keep (fun hlt => hb1.block _ hlt), (hk2 i hi).2.below hb1⟩)
        have hkk : (kind != kind) = false := by simp
        clear ih hk hk2 hs hs2 hcnt
        go_enter Tryz.func38, Tryz.ntmps38
        go_wp2_with fail
        have hB0 : Below w.heap.size w ((w.alloc (.cells #[.int .i64 kind, .slice a n cap, .slice a' m cap'] 50)).alloc (.cells #[.int .i64 kind, .slice a2 n cap2, .slice a2' m cap2'] 50)) := ((Below.refl _ _).alloc (Nat.le_refl _) _).alloc (by simp) _
        refine (H1.out _ hB0).mono ?_
        rintro e w1 ⟨rfl, hb1⟩
        obtain ⟨hc1, hf1⟩ := bcell hb1
        have r1 : w1.cell? ⟨w.heap.size, 2, none⟩ = some (.slice a' m cap') := by rw [hc1 _ _ (by simp <;> omega)]; simp [go_sem]
        have r2 : w1.cell? ⟨w.heap.size + 1, 2, none⟩ = some (.slice a2' m cap2') := by rw [hc1 _ _ (by simp <;> omega)]; simp [go_sem]
        clear hc1 hf1
        have hB1 := hB0.trans (hb1.mono hB0.size)
        go_wp2_with fail
        refine (H2.out _ hB1).mono ?_
        rintro e w2 ⟨rfl, hb2⟩
        go_wp2_with fail
        go_ret
        exact ⟨rfl, hB1.trans (hb2.mono hB1.size)⟩
end Go.Proofs.YtplpdikkkbiacaaGreatDoor
namespace Go.Proofs.YtplpdikkkbiacaaGreatDoor
open Go.RowKit
set_option linter.unusedVariables false
set_option linter.unusedSimpArgs false

set_option maxHeartbeats 400000 in
theorem specSetOk_q (a : Option Addr) (b off cap n : Nat) (L H : Nat → Int) (w : World) (hga : 0 < n → a = some ⟨b, off, none⟩) (hc : Sp w b off n L H) (hn : n ≤ 4194304) :
    Calls Tryz.prog 55 #[.slice a n cap] w fun e w' => e = .returned (.bool (okB n L H)) ∧ ∃ q, w' = w.drewN q := by
  go_enter Tryz.func55, Tryz.ntmps55
  go_wp2
  go_loopw [3] (fun i wr => ∃ (k : Nat), k ≤ n ∧ i = .int .i64 k ∧ Hid (∀ j, j < k → OkAt L H j) ∧ ∃ q, wr = w.drewN q) (fun i _ => n - (intOf i).toNat)
  case atStart => exact ⟨0, Nat.zero_le _, rfl, fun j hj => absurd hj (Nat.not_lt_zero _), ⟨0, rfl⟩⟩
  case round =>
    obtain ⟨k, hk, rfl, Hall, q, rfl⟩ := hrel
    by_cases hlt : k < n
    · obtain rfl := hga (by omega)
      have hltz : (k : Int) < (n : Int) := by omega
      obtain ⟨c1, c2⟩ := hc k hlt
      have no : ∀ (h : ¬ OkAt L H k), Ending.returned (.bool false) = .returned (.bool (okB n L H)) := fun h => ret_bool (okB_false hlt h).symm
      have No : Hid (¬ OkAt L H k → Ending.returned (.bool false) = .returned (.bool (okB n L H))) := no
      clear no
      by_cases t1 : L k < 0
      · go_wp2_with fail
        go_quiet (fail)
        go_wp2
        go_ret
        exact ⟨No.out (by unfold OkAt; omega), ⟨_, by first | rfl | exact World.drewN_drewN _ _ _⟩⟩
      have t1' : decide (L k < 0) = false := by simpa using t1
      by_cases t2 : 255 < H k
      · go_wp2_with fail
        go_quiet (fail)
        go_wp2
        go_ret
        exact ⟨No.out (by unfold OkAt; omega), ⟨_, by first | rfl | exact World.drewN_drewN _ _ _⟩⟩
      have t2' : decide (255 < H k) = false := by simpa using t2
      by_cases t3 : H k < L k
      · go_wp2_with fail
        go_quiet (fail)
        go_wp2
        go_ret
        exact ⟨No.out (by unfold OkAt; omega), ⟨_, by first | rfl | exact World.drewN_drewN _ _ _⟩⟩
      have t3' : decide (H k < L k) = false := by simpa using t3
      by_cases t4 : 0 < k
      · have t4z : (0 : Int) < (k : Int) := by omega
        have hk1 := Hall.out (k - 1) (by omega)
        obtain ⟨q1, q2, q3, _⟩ := hk1
        obtain ⟨c3, c4⟩ := hc (k - 1) (by omega)
        by_cases t5 : L k ≤ H (k - 1) + 1
        · go_wp2_with fail
          go_quiet (fail)
          go_wp2
          go_ret
          exact ⟨No.out (fun o => by have := o.2.2.2 t4; omega), ⟨_, by first | rfl | exact World.drewN_drewN _ _ _⟩⟩
        · have t5' : decide (L k ≤ H (k - 1) + 1) = false := by simpa using t5
          go_wp2_with fail
          go_quiet (fail)
          go_wp2
          go_roundw
          case rel => exact ⟨k + 1, by omega, by go_num, ok_step Hall.out (by unfold OkAt; omega), ⟨_, by first | rfl | exact World.drewN_drewN _ _ _⟩⟩
          case measure => simp [intOf]; omega
      · have t4' : decide ((0 : Int) < (k : Int)) = false := by simp; omega
        go_wp2_with fail
        go_quiet (fail)
        go_wp2
        go_roundw
        case rel => exact ⟨k + 1, by omega, by go_num, ok_step Hall.out (by unfold OkAt; omega), ⟨_, by first | rfl | exact World.drewN_drewN _ _ _⟩⟩
        case measure => simp [intOf]; omega
    · go_wp2
      go_ret
      obtain rfl : k = n := by omega
      exact ⟨ret_bool (okB_true Hall.out).symm, ⟨_, by first | rfl | exact World.drewN_drewN _ _ _⟩⟩

/-- how many kids a kind has; -1, if it is none -/
def kidsOf (k : Int) : Int := if k = 1 ∨ k = 2 then 0 else if k = 5 ∨ k = 7 then 1 else if k = 3 ∨ k = 4 ∨ k = 6 then 2 else -1

theorem kidsOf_other {k : Int} (h1 : k ≠ 1) (h2 : k ≠ 2) (h3 : k ≠ 3) (h4 : k ≠ 4) (h5 : k ≠ 5) (h6 : k ≠ 6) (h7 : k ≠ 7) : kidsOf k = -1 := by
  unfold kidsOf; rw [if_neg (by omega), if_neg (by omega), if_neg (by omega)]

set_option maxHeartbeats 1000000 in
theorem l2Kids_any (k : Int) (w : World) : Calls Tryz.prog 54 #[.int .i64 k] w fun e w' => e = .returned (.int .i64 (kidsOf k)) ∧ w' = w := by
  by_cases h1 : k = 1
  · subst h1; go_enter Tryz.func54, Tryz.ntmps54; go_wp2_with fail; go_ret; exact ⟨rfl, rfl⟩
  by_cases h2 : k = 2
  · subst h2; go_enter Tryz.func54, Tryz.ntmps54; go_wp2_with fail; go_ret; exact ⟨rfl, rfl⟩
  by_cases h3 : k = 3
  · subst h3; go_enter Tryz.func54, Tryz.ntmps54; go_wp2_with fail; go_ret; exact ⟨rfl, rfl⟩
  by_cases h4 : k = 4
  · subst h4; go_enter Tryz.func54, Tryz.ntmps54; go_wp2_with fail; go_ret; exact ⟨rfl, rfl⟩
  by_cases h5 : k = 5
  · subst h5; go_enter Tryz.func54, Tryz.ntmps54; go_wp2_with fail; go_ret; exact ⟨rfl, rfl⟩
  by_cases h6 : k = 6
  · subst h6; go_enter Tryz.func54, Tryz.ntmps54; go_wp2_with fail; go_ret; exact ⟨rfl, rfl⟩
  by_cases h7 : k = 7
  · subst h7; go_enter Tryz.func54, Tryz.ntmps54; go_wp2_with fail; go_ret; exact ⟨rfl, rfl⟩
  have HR : Hid (kidsOf k = -1) := kidsOf_other h1 h2 h3 h4 h5 h6 h7
  have b1 : (k == 1) = false := by simpa using h1
  have b2 : (k == 2) = false := by simpa using h2
  have b3 : (k == 3) = false := by simpa using h3
  have b4 : (k == 4) = false := by simpa using h4
  have b5 : (k == 5) = false := by simpa using h5
  have b6 : (k == 6) = false := by simpa using h6
  have b7 : (k == 7) = false := by simpa using h7
  clear h1 h2 h3 h4 h5 h6 h7
  go_enter Tryz.func54, Tryz.ntmps54
  go_wp2_with fail
  go_ret
  exact ⟨ret_int HR.out.symm, rfl⟩

end Go.Proofs.YtplpdikkkbiacaaGreatDoor

