/- the walks of szRule, szRuleS -/
import Derived.Test.YtplpdikkkbiacaaGreatDoorXs
namespace Go.Proofs.YtplpdikkkbiacaaGreatDoor
open Go.RowKit
set_option linter.unusedVariables false
set_option linter.unusedSimpArgs false

set_option maxHeartbeats 1000000 in
theorem szRule_any (s : ByteArray) (S : Sh) (M : Mx) (left : Int) (w : World) (hs : s.size ≤ maxLen) (hT : In AnyB w S M) (h0 : 0 ≤ left) (h1 : left ≤ 1048576) :
    Calls Tryz.prog 13 #[rv s S M, .int .i64 left] w fun e w' => e = .returned (.int .i64 (leftOf left (cntU s S))) ∧ Below w.heap.size w w' := by
  unfold maxLen at hs
  obtain ⟨a, n, c, a', m, c', es, ek⟩ := hT.slices
  have hb0 : Below w.heap.size w (w.alloc (.cells #[.string s, .int .i64 S.kind, .slice a n c, .slice a' m c'] 40)) := (Below.refl _ _).alloc (Nat.le_refl _) _
  by_cases hneg : left < s.size
  · have h' : left - (s.size : Int) < 0 := by omega
    have HR : Hid (leftOf left (cntU s S) = -1) := leftOf_neg (by unfold cntU; omega)
    rw [rv, es, ek]
    clear es ek hT
    go_enter Tryz.func13, Tryz.ntmps13
    go_wp2_with fail
    go_ret
    exact ⟨ret_int HR.out.symm, hb0⟩
  · have h' : ¬ left - (s.size : Int) < 0 := by omega
    have HC : Hid (∀ w1, Below w.heap.size w w1 → Calls Tryz.prog 28 #[vx S M, .int .i64 (left - s.size)] w1 fun e w' => e = .returned (.int .i64 (leftOf (left - s.size) (cnt S))) ∧ Below w1.heap.size w1 w') := fun w1 hb => szRex_any S M _ w1 (hT.below hb) (by omega) (by omega)
    rw [vx, es, ek] at HC
    by_cases hlow : left - (s.size : Int) < cnt S
    · rw [show leftOf (left - s.size) (cnt S) = -1 from leftOf_neg hlow] at HC
      have HR : Hid (leftOf left (cntU s S) = -1) := leftOf_neg (by unfold cntU; omega)
      rw [rv, es, ek]
      clear es ek hT hlow
      go_enter Tryz.func13, Tryz.ntmps13
      go_wp2_with fail
      refine (HC.out _ hb0).mono ?_
      rintro e w1 ⟨rfl, hb1⟩
      go_wp2_with fail
      go_ret
      exact ⟨ret_int HR.out.symm, hb0.trans (hb1.mono hb0.size)⟩
    · rw [show leftOf (left - s.size) (cnt S) = left - s.size - (cnt S : Int) from leftOf_pos hlow] at HC
      have HR : Hid (leftOf left (cntU s S) = left - s.size - (cnt S : Int)) := by
        have : leftOf left (cntU s S) = _ := leftOf_pos (by unfold cntU; omega)
        rw [Hid, this]; unfold cntU; omega
      obtain ⟨z, hz⟩ : ∃ z : Nat, cnt S = z := ⟨_, rfl⟩
      have h3 : ¬ left - (s.size : Int) - (z : Int) < 0 := by omega
      rw [hz] at HC HR
      rw [rv, es, ek]
      clear es ek hT hlow hz
      go_enter Tryz.func13, Tryz.ntmps13
      go_wp2_with fail
      refine (HC.out _ hb0).mono ?_
      rintro e w1 ⟨rfl, hb1⟩
      go_wp2_with fail
      go_ret
      exact ⟨ret_int HR.out.symm, hb0.trans (hb1.mono hb0.size)⟩

/-- how much the first k rules hold -/
def cntS (N : Nat → ByteArray) (K : Nat → Sh) (k : Nat) : Nat := sumN (fun i => cntU (N i) (K i)) k

set_option maxHeartbeats 1000000 in
theorem szRuleS_any (a : Option Addr) (b off n cap : Nat) (N : Nat → ByteArray) (K : Nat → Sh) (M : Nat → Mx) (left : Int) (w : World) (hga : 0 < n → a = some ⟨b, off, none⟩) (hR : RulesIn AnyB w b off n N K M)
    (hN : ∀ i, i < n → (N i).size ≤ maxLen) (hm : n ≤ 9223372036854775807) (h0 : 0 ≤ left) (h1 : left ≤ 1048576) :
    Calls Tryz.prog 4 #[.slice a n cap, .int .i64 left] w fun e w' => e = .returned (.int .i64 (leftOf left (n + cntS N K n))) ∧ Below w.heap.size w w' := by
  by_cases hneg : left < n
  · have h' : left - (n : Int) < 0 := by omega
    have HR : Hid (leftOf left (n + cntS N K n) = -1) := leftOf_neg (by omega)
    go_enter Tryz.func4, Tryz.ntmps4
    go_wp2_with fail
    go_ret
    exact ⟨ret_int HR.out.symm, Below.refl _ _⟩
  · have h' : ¬ left - (n : Int) < 0 := by omega
    go_enter Tryz.func4, Tryz.ntmps4
    go_wp2_with fail
    go_loopw [1, 5] (fun t i wr => ∃ (k : Nat) (s : Int), k ≤ n ∧ i = .int .i64 k ∧ t = .int .i64 s ∧ 0 ≤ s ∧ s ≤ 1048576 ∧ Hid (s = left - n - cntS N K k) ∧ Below w.heap.size w wr)
      (fun _ i _ => n - (intOf i).toNat)
    case atStart => exact ⟨0, left - n, Nat.zero_le _, rfl, rfl, by omega, by omega, by simp [Hid, cntS, sumN], Below.refl _ _⟩
    case round =>
      obtain ⟨k, s, hk', rfl, rfl, hs0, hs1, HS, hB⟩ := hrel
      by_cases hlt : k < n
      · obtain rfl := hga (by omega)
        have hltz : (k : Int) < (n : Int) := by omega
        obtain ⟨hat, hin⟩ := hR k hlt
        obtain ⟨d0, d1, d2, d3⟩ := (hat.below hB).cells
        have hcall := szRule_any (N k) (K k) (M k) s wr (hN k hlt) (hin.below hB) hs0 hs1
        have HC : Hid (Calls Tryz.prog 13 #[rv (N k) (K k) (M k), .int .i64 s] wr fun e w' => e = .returned (.int .i64 (leftOf s (cntU (N k) (K k)))) ∧ Below wr.heap.size wr w') := hcall
        clear hcall
        by_cases hlow : s < cntU (N k) (K k)
        · have e1 : leftOf s (cntU (N k) (K k)) = -1 := leftOf_neg hlow
          rw [e1] at HC
          have HR : Hid (leftOf left (n + cntS N K n) = -1) := leftOf_neg (by have := sumN_at (f := fun i => cntU (N i) (K i)) hlt; have := HS.out; simp only [cntS] at *; omega)
          clear e1
          go_wp2_with fail
          refine HC.out.mono ?_
          rintro e w1 ⟨rfl, hb1⟩
          go_wp2_with fail
          go_ret
          exact ⟨ret_int HR.out.symm, hB.trans (hb1.mono hB.size)⟩
        · have e1 : leftOf s (cntU (N k) (K k)) = s - cntU (N k) (K k) := leftOf_pos hlow
          rw [e1] at HC
          have h3 : ¬ s - (cntU (N k) (K k) : Int) < 0 := by omega
          clear e1
          go_wp2_with fail
          refine HC.out.mono ?_
          rintro e w1 ⟨rfl, hb1⟩
          go_wp2_with fail
          go_roundw
          case rel => exact ⟨k + 1, s - cntU (N k) (K k), by omega, by go_num, rfl, by omega, by omega, by have := HS.out; simp only [Hid, cntS, sumN] at *; omega, hB.trans (hb1.mono hB.size)⟩
          case measure => simp [intOf]; omega
      · go_wp2_with fail
        go_ret
        obtain rfl : k = n := by omega
        exact ⟨ret_int (by have := HS.out; rw [leftOf_pos (by omega)]; omega), hB⟩

end Go.Proofs.YtplpdikkkbiacaaGreatDoor

