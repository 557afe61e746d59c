/- the walks of szRex, szRexS -/
import Derived.Test.YtcpbkkdjaojfiaaGreatDoorTree
namespace Go.Proofs.YtcpbkkdjaojfiaaGreatDoor
open Go.RowKit
set_option linter.unusedVariables false
set_option linter.unusedSimpArgs false

abbrev AnyB : Nat → Prop := fun _ => True

theorem leftOf_neg {left : Int} {c : Nat} (h : left < c) : leftOf left c = -1 := by simp [leftOf, h]
theorem leftOf_pos {left : Int} {c : Nat} (h : ¬ left < c) : leftOf left c = left - c := by simp [leftOf, h]

set_option maxHeartbeats 1000000 in
theorem szRexS_of (m : Nat) (K : Nat → Sh) (M : Nat → Mx) (hm : m ≤ 9223372036854775807)
    (ih : ∀ i, i < m → ∀ (left : Int) (w : World), In AnyB w (K i) (M i) → 0 ≤ left → left ≤ 1048576 → Calls Tryz.prog 18 #[vx (K i) (M i), .int .i64 left] w fun e w' => e = .returned (.int .i64 (leftOf left (cnt (K i)))) ∧ Below w.heap.size w w')
    (a : Option Addr) (b off cap : Nat) (left : Int) (w : World) (hga : 0 < m → a = some ⟨b, off, none⟩) (hk : ∀ i, i < m → Kid w b (off + i * 3) (K i) (M i) ∧ In AnyB w (K i) (M i)) (h0 : 0 ≤ left) (h1 : left ≤ 1048576) :
    Calls Tryz.prog 30 #[.slice a m cap, .int .i64 left] w fun e w' => e = .returned (.int .i64 (leftOf left (m + sumN (fun i => cnt (K i)) m))) ∧ Below w.heap.size w w' := by
  by_cases hneg : left < m
  · have h' : left - (m : Int) < 0 := by omega
    have HR : Hid (leftOf left (m + sumN (fun i => cnt (K i)) m) = -1) := leftOf_neg (by omega)
    go_enter Tryz.func30, Tryz.ntmps30
    go_wp2_with fail
    go_ret
    exact ⟨ret_int HR.out.symm, Below.refl _ _⟩
  · have h' : ¬ left - (m : Int) < 0 := by omega
    go_enter Tryz.func30, Tryz.ntmps30
    go_wp2_with fail
    go_loopw [1, 5] (fun t i wr => ∃ (k : Nat) (s : Int), k ≤ m ∧ i = .int .i64 k ∧ t = .int .i64 s ∧ 0 ≤ s ∧ s ≤ 1048576 ∧ Hid (s = left - m - sumN (fun i => cnt (K i)) k) ∧ Below w.heap.size w wr)
      (fun _ i _ => m - (intOf i).toNat)
    case atStart => exact ⟨0, left - m, Nat.zero_le _, rfl, rfl, by omega, by omega, by simp [Hid, sumN], Below.refl _ _⟩
    case round =>
      obtain ⟨k, s, hk', rfl, rfl, hs0, hs1, HS, hB⟩ := hrel
      by_cases hlt : k < m
      · obtain rfl := hga (by omega)
        have hltz : (k : Int) < (m : Int) := by omega
        obtain ⟨⟨c1, c2, c3⟩, hin⟩ := hk k hlt
        have d1 : wr.cell? ⟨b, off + k * 3, none⟩ = _ := (hB.cell (p := ⟨b, _, none⟩) (World.block_lt_of_cell? _ _ c1)).trans c1
        have d2 : wr.cell? ⟨b, off + k * 3 + 1, none⟩ = _ := (hB.cell (p := ⟨b, _, none⟩) (World.block_lt_of_cell? _ _ c2)).trans c2
        have d3 : wr.cell? ⟨b, off + k * 3 + 2, none⟩ = _ := (hB.cell (p := ⟨b, _, none⟩) (World.block_lt_of_cell? _ _ c3)).trans c3
        have hcall := ih k hlt s wr (hin.below hB) hs0 hs1
        have HC : Hid (Calls Tryz.prog 18 #[vx (K k) (M k), .int .i64 s] wr fun e w' => e = .returned (.int .i64 (leftOf s (cnt (K k)))) ∧ Below wr.heap.size wr w') := hcall
        clear c1 c2 c3 hcall
        by_cases hlow : s < cnt (K k)
        · have e1 : leftOf s (cnt (K k)) = -1 := leftOf_neg hlow
          rw [e1] at HC
          have HR : Hid (leftOf left (m + sumN (fun i => cnt (K i)) m) = -1) := leftOf_neg (by have := sumN_at (f := fun i => cnt (K i)) hlt; have := HS.out; simp only at *; omega)
          clear e1
          go_wp2_with fail
          refine HC.out.mono ?_
          rintro e w1 ⟨rfl, hb1⟩
          go_wp2_with fail
          go_ret
          exact ⟨ret_int HR.out.symm, hB.trans (hb1.mono hB.size)⟩
        · have e1 : leftOf s (cnt (K k)) = s - cnt (K k) := leftOf_pos hlow
          rw [e1] at HC
          have h3 : ¬ s - (cnt (K k) : Int) < 0 := by omega
          clear e1
          go_wp2_with fail
          refine HC.out.mono ?_
          rintro e w1 ⟨rfl, hb1⟩
          go_wp2_with fail
          go_roundw
          case rel => exact ⟨k + 1, s - cnt (K k), by omega, by go_num, rfl, by omega, by omega, by have := HS.out; simp only [Hid, sumN]; omega, hB.trans (hb1.mono hB.size)⟩
          case measure => simp [intOf]; omega
      · go_wp2_with fail
        go_ret
        obtain rfl : k = m := by omega
        exact ⟨ret_int (by have := HS.out; rw [leftOf_pos (by omega)]; omega), hB⟩

set_option maxHeartbeats 1000000 in
theorem szRex_any (S : Sh) : ∀ (M : Mx) (left : Int) (w : World), In AnyB w S M → 0 ≤ left → left ≤ 1048576 →
    Calls Tryz.prog 18 #[vx S M, .int .i64 left] w fun e w' => e = .returned (.int .i64 (leftOf left (cnt S))) ∧ Below w.heap.size w w' := by
  induction S using Sh.ind with
  | h kind n L H m K ih =>
    intro M left w h h0 h1
    obtain ⟨sv, kv, M, rfl⟩ := Mx.cases M
    · skip
      obtain ⟨a, b, off, cap, a', b', off', cap', e1, hn, hs, hl, e2, hm, hl', hk⟩ := h
      obtain rfl : sv = _ := e1
      obtain rfl : kv = _ := e2
      simp only [Mx.mk_kid] at hk
      simp only [vx, Sh.mk_kind, Mx.mk_sv, Mx.mk_kv]
      have hsz := fun w => sz_any a n cap left w h0 h1 (by omega)
      by_cases hneg : left < n
      · simp only [if_pos hneg] at hsz
        have HZ : Hid (∀ w, Calls Tryz.prog 29 #[.slice a n cap, .int .i64 left] w fun e w' => e = .returned (.int .i64 (-1)) ∧ w' = w) := hsz
        have HR : Hid (leftOf left (cnt (.mk kind n L H m K)) = -1) := leftOf_neg (by simp only [cnt_mk]; omega)
        clear hsz ih hk
        go_enter Tryz.func18, Tryz.ntmps18
        go_wp2_with fail
        refine (HZ.out _).mono ?_
        rintro e w1 ⟨rfl, rfl⟩
        go_wp2_with fail
        go_ret
        exact ⟨ret_int HR.out.symm, (Below.refl _ _).alloc (Nat.le_refl _) _⟩
      · simp only [if_neg hneg] at hsz
        have HZ : Hid (∀ w, Calls Tryz.prog 29 #[.slice a n cap, .int .i64 left] w fun e w' => e = .returned (.int .i64 (left - n)) ∧ w' = w) := hsz
        have HI : Hid (∀ w1, Below w.heap.size w w1 → Calls Tryz.prog 30 #[.slice a' m cap', .int .i64 (left - n)] w1 fun e w' => e = .returned (.int .i64 (leftOf (left - n) (m + sumN (fun i => cnt (K i)) m))) ∧ Below w1.heap.size w1 w') := fun w1 hb1 =>
          szRexS_of m K M hl' (fun i hi => ih i hi (M i)) a' b' off' cap' (left - n) w1 (fun h => (hm h).1) (fun i hi => ⟨(hk i hi).1.keep (fun hlt => hb1.block _ hlt), (hk i hi).2.below hb1⟩) (by omega) (by omega)
        have h3 : ¬ left - (n : Int) < 0 := by omega
        clear hsz ih hk
        by_cases hlow : left - n < (m + sumN (fun i => cnt (K i)) m : Nat)
        · rw [show leftOf (left - n) (m + sumN (fun i => cnt (K i)) m) = -1 from leftOf_neg hlow] at HI
          have HR : Hid (leftOf left (cnt (.mk kind n L H m K)) = -1) := leftOf_neg (by simp only [cnt_mk]; omega)
          go_enter Tryz.func18, Tryz.ntmps18
          go_wp2_with fail
          refine (HZ.out _).mono ?_
          rintro e w1 ⟨rfl, rfl⟩
          go_wp2_with fail
          refine (HI.out _ ((Below.refl _ _).alloc (Nat.le_refl _) _)).mono ?_
          rintro e w2 ⟨rfl, hb2⟩
          go_wp2_with fail
          go_ret
          exact ⟨ret_int HR.out.symm, ((Below.refl _ _).alloc (Nat.le_refl _) _).trans (hb2.mono (by simp))⟩
        · rw [show leftOf (left - n) (m + sumN (fun i => cnt (K i)) m) = left - n - (m + sumN (fun i => cnt (K i)) m : Nat) from leftOf_pos hlow] at HI
          have HR : Hid (leftOf left (cnt (.mk kind n L H m K)) = left - n - (m + sumN (fun i => cnt (K i)) m : Nat)) := by
            have : leftOf left (cnt (.mk kind n L H m K)) = _ := leftOf_pos (by simp only [cnt_mk]; omega)
            rw [Hid, this]; simp only [cnt_mk]; omega
          have h4 : ¬ left - (n : Int) - ((m + sumN (fun i => cnt (K i)) m : Nat) : Int) < 0 := by omega
          obtain ⟨z, HZ2⟩ : ∃ z : Nat, Hid (m + sumN (fun i => cnt (K i)) m = z) := ⟨_, rfl⟩
          rw [HZ2.out] at HI HR h4
          go_enter Tryz.func18, Tryz.ntmps18
          go_wp2_with fail
          refine (HZ.out _).mono ?_
          rintro e w1 ⟨rfl, rfl⟩
          go_wp2_with fail
          refine (HI.out _ ((Below.refl _ _).alloc (Nat.le_refl _) _)).mono ?_
          rintro e w2 ⟨rfl, hb2⟩
          go_wp2_with fail
          go_ret
          exact ⟨ret_int HR.out.symm, ((Below.refl _ _).alloc (Nat.le_refl _) _).trans (hb2.mono (by simp))⟩

end Go.Proofs.YtcpbkkdjaojfiaaGreatDoor

