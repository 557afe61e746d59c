/- the walks of eqRex, eqRexS, at two of one shape -/
import Derived.Test.YtcpbkkdjaojfiaaGreatDoorTc
namespace Go.Proofs.YtcpbkkdjaojfiaaGreatDoor
open Go.RowKit
set_option linter.unusedVariables false
set_option linter.unusedSimpArgs false

theorem eqB_self (n : Nat) (L H : Nat → Int) : eqB n L H n L H = true := eqB_all (fun i _ => ⟨rfl, rfl⟩)

set_option maxHeartbeats 1000000 in
theorem eqRexS_of (m : Nat) (K : Nat → Sh) (M M' : Nat → Mx) (hm : m ≤ 1048576)
    (ih : ∀ i, i < m → ∀ (w : World), In AnyB w (K i) (M i) → In AnyB w (K i) (M' i) → Calls Tryz.prog 28 #[vx (K i) (M i), vx (K i) (M' i)] w fun e w' => e = .returned (.bool true) ∧ Below w.heap.size w w')
    (a : Option Addr) (b off cap : Nat) (a' : Option Addr) (b' off' cap' : Nat) (w : World) (hga : 0 < m → a = some ⟨b, off, none⟩) (hk : ∀ i, i < m → Kid w b (off + i * 3) (K i) (M i) ∧ In AnyB w (K i) (M i))
    (hga' : 0 < m → a' = some ⟨b', off', none⟩) (hk2 : ∀ i, i < m → Kid w b' (off' + i * 3) (K i) (M' i) ∧ In AnyB w (K i) (M' i)) :
    Calls Tryz.prog 47 #[.slice a m cap, .slice a' m cap'] w fun e w' => e = .returned (.bool true) ∧ Below w.heap.size w w' := by
  have hnn : ((m : Int) != (m : Int)) = false := by simp
  go_enter Tryz.func47, Tryz.ntmps47
  go_wp2_with fail
  go_loopw [5] (fun i wr => ∃ k : Nat, k ≤ m ∧ i = .int .i64 k ∧ Below w.heap.size w wr) (fun i _ => m - (intOf i).toNat)
  case atStart => exact ⟨0, Nat.zero_le _, rfl, Below.refl _ _⟩
  case round =>
    obtain ⟨k, hk', rfl, hB⟩ := hrel
    by_cases hlt : k < m
    · obtain rfl := hga (by omega)
      obtain rfl := hga' (by omega)
      have hltz : (k : Int) < (m : Int) := by omega
      obtain ⟨⟨c1, c2, c3⟩, hin⟩ := hk k hlt
      obtain ⟨⟨x1, x2, x3⟩, hin'⟩ := hk2 k hlt
      have d1 : wr.cell? ⟨b, off + k * 3, none⟩ = _ := (hB.cell (p := ⟨b, _, none⟩) (World.block_lt_of_cell? _ _ c1)).trans c1
      have d2 : wr.cell? ⟨b, off + k * 3 + 1, none⟩ = _ := (hB.cell (p := ⟨b, _, none⟩) (World.block_lt_of_cell? _ _ c2)).trans c2
      have d3 : wr.cell? ⟨b, off + k * 3 + 2, none⟩ = _ := (hB.cell (p := ⟨b, _, none⟩) (World.block_lt_of_cell? _ _ c3)).trans c3
      have y1 : wr.cell? ⟨b', off' + k * 3, none⟩ = _ := (hB.cell (p := ⟨b', _, none⟩) (World.block_lt_of_cell? _ _ x1)).trans x1
      have y2 : wr.cell? ⟨b', off' + k * 3 + 1, none⟩ = _ := (hB.cell (p := ⟨b', _, none⟩) (World.block_lt_of_cell? _ _ x2)).trans x2
      have y3 : wr.cell? ⟨b', off' + k * 3 + 2, none⟩ = _ := (hB.cell (p := ⟨b', _, none⟩) (World.block_lt_of_cell? _ _ x3)).trans x3
      have HC : Hid (Calls Tryz.prog 28 #[vx (K k) (M k), vx (K k) (M' k)] wr.drew fun e w' => e = .returned (.bool true) ∧ Below wr.drew.heap.size wr.drew w') := ih k hlt wr.drew ((hin.below hB).below (Below.refl _ _).drew) ((hin'.below hB).below (Below.refl _ _).drew)
      clear c1 c2 c3 x1 x2 x3
      simp only [vx] at HC
      go_wp2_with fail
      go_region_with (go_at_call 28; refine HC.out.mono ?_; rintro e w1 ⟨rfl, hb1⟩)
      all_goals go_wp2_with fail
      all_goals
        go_roundw
        case rel => exact ⟨k + 1, by omega, by go_num, hB.drew.trans (hb1.mono hB.size)⟩
        case measure => simp [intOf]; omega
    · go_wp2_with fail
      go_ret
      exact ⟨rfl, hB⟩

set_option maxHeartbeats 1000000 in
theorem eqRex_same (S : Sh) : ∀ (M M' : Mx) (w : World), In AnyB w S M → In AnyB w S M' → cnt S ≤ 1048576 →
    Calls Tryz.prog 28 #[vx S M, vx S M'] w fun e w' => e = .returned (.bool true) ∧ Below w.heap.size w w' := by
  induction S using Sh.ind with
  | h kind n L H m K ih =>
    intro M M' w h h' hcnt
    obtain ⟨sv, kv, M, rfl⟩ := Mx.cases M
    · skip
      obtain ⟨sv', kv', M', rfl⟩ := Mx.cases M'
      · skip
        obtain ⟨a, b, off, cap, a', b', off', cap', e1, hn, hs, hl, e2, hm, hl', hk⟩ := h
        obtain rfl : sv = _ := e1
        obtain rfl : kv = _ := e2
        simp only [Mx.mk_kid] at hk
        obtain ⟨a2, b2, off2, cap2, a2', b2', off2', cap2', e1, hn2, hs2, hl2, e2, hm2, hl2', hk2⟩ := h'
        obtain rfl : sv' = _ := e1
        obtain rfl : kv' = _ := e2
        simp only [Mx.mk_kid] at hk2
        simp only [vx, Sh.mk_kind, Mx.mk_sv, Mx.mk_kv]
        simp only [cnt_mk] at hcnt
        have H1 : Hid (∀ w1, Below w.heap.size w w1 → Calls Tryz.prog 46 #[.slice a n cap, .slice a2 n cap2] w1 fun e w' => e = .returned (.bool true) ∧ Below w1.heap.size w1 w') := fun w1 hb1 => by
          have := eqSpanS_any a a2 b off cap n b2 off2 cap2 n L H L H w1 (fun h => (hn h).1) (hs.below hb1) (fun h => (hn2 h).1) (hs2.below hb1) (by omega) (by omega)
          rwa [eqB_self] at this
        have H2 : Hid (∀ w1, Below w.heap.size w w1 → Calls Tryz.prog 47 #[.slice a' m cap', .slice a2' m cap2'] w1 fun e w' => e = .returned (.bool true) ∧ Below w1.heap.size w1 w') := fun w1 hb1 =>
          eqRexS_of m K M M' (by omega) (fun i hi w2 h2 h3 => ih i hi (M i) (M' i) w2 h2 h3 (by have := sumN_at (f := fun i => cnt (K i)) hi; omega)) a' b' off' cap' a2' b2' off2' cap2' w1 (fun h => (hm h).1)
            (fun i hi => ⟨(hk i hi).1.keep (fun hlt => hb1.block _ hlt), (hk i hi).2.below hb1⟩) (fun h => (hm2 h).1) (fun i hi => ⟨(hk2 i hi).1.keep (fun hlt => hb1.block _ hlt), (hk2 i hi).2.below hb1⟩)
        have hkk : (kind != kind) = false := by simp
        clear ih hk hk2 hs hs2 hcnt
        go_enter Tryz.func28, Tryz.ntmps28
        go_wp2_with fail
        have hB0 : Below w.heap.size w ((w.alloc (.cells #[.int .i64 kind, .slice a n cap, .slice a' m cap'] 40)).alloc (.cells #[.int .i64 kind, .slice a2 n cap2, .slice a2' m cap2'] 40)) := ((Below.refl _ _).alloc (Nat.le_refl _) _).alloc (by simp) _
        refine (H1.out _ hB0).mono ?_
        rintro e w1 ⟨rfl, hb1⟩
        obtain ⟨hc1, hf1⟩ := bcell hb1
        have r1 : w1.cell? ⟨w.heap.size, 2, none⟩ = some (.slice a' m cap') := by rw [hc1 _ _ (by simp <;> omega)]; simp [go_sem]
        have r2 : w1.cell? ⟨w.heap.size + 1, 2, none⟩ = some (.slice a2' m cap2') := by rw [hc1 _ _ (by simp <;> omega)]; simp [go_sem]
        clear hc1 hf1
        have hB1 := hB0.trans (hb1.mono hB0.size)
        go_wp2_with fail
        refine (H2.out _ hB1).mono ?_
        rintro e w2 ⟨rfl, hb2⟩
        go_wp2_with fail
        go_ret
        exact ⟨rfl, hB1.trans (hb2.mono hB1.size)⟩
end Go.Proofs.YtcpbkkdjaojfiaaGreatDoor

