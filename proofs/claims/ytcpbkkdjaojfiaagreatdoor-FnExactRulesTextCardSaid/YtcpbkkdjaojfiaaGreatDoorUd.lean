/- the walks of eqRule, eqRuleS, at two of one shape -/
import Derived.Test.YtcpbkkdjaojfiaaGreatDoorUc
import Derived.Test.YtcpbkkdjaojfiaaGreatDoorTd
namespace Go.Proofs.YtcpbkkdjaojfiaaGreatDoor
open Go.RowKit
set_option linter.unusedVariables false
set_option linter.unusedSimpArgs false

set_option maxHeartbeats 1000000 in
theorem eqRule_same (s : ByteArray) (S : Sh) (M M' : Mx) (w : World) (h : In AnyB w S M) (h' : In AnyB w S M') (hcnt : cnt S ≤ 1048576) :
    Calls Tryz.prog 17 #[rv s S M, rv s S M'] w fun e w' => e = .returned (.bool true) ∧ Below w.heap.size w w' := by
  obtain ⟨a, n, c, a', m, c', es, ek⟩ := h.slices
  obtain ⟨a2, n2, c2, a2', m2, c2', es2, ek2⟩ := h'.slices
  have H1 : Hid (∀ w1, Below w.heap.size w w1 → Calls Tryz.prog 28 #[vx S M, vx S M'] w1 fun e w' => e = .returned (.bool true) ∧ Below w1.heap.size w1 w') := fun w1 hb1 => eqRex_same S M M' w1 (h.below hb1) (h'.below hb1) hcnt
  rw [vx, vx, es, ek, es2, ek2] at H1
  rw [rv, rv, es, ek, es2, ek2]
  clear es ek es2 ek2 h h'
  have hB0 : Below w.heap.size w ((w.alloc (.cells #[.string s, .int .i64 S.kind, .slice a n c, .slice a' m c'] 42)).alloc (.cells #[.string s, .int .i64 S.kind, .slice a2 n2 c2, .slice a2' m2 c2'] 42)) := ((Below.refl _ _).alloc (Nat.le_refl _) _).alloc (by simp) _
  go_enter Tryz.func17, Tryz.ntmps17
  go_wp2_with fail
  refine (H1.out _ hB0).mono ?_
  rintro e w1 ⟨rfl, hb1⟩
  go_wp2_with fail
  go_ret
  exact ⟨rfl, hB0.trans (hb1.mono hB0.size)⟩

set_option maxHeartbeats 1000000 in
theorem eqRuleS_same (n : Nat) (N : Nat → ByteArray) (K : Nat → Sh) (M M' : Nat → Mx) (hn : n ≤ 1048576) (hc : ∀ i, i < n → cnt (K i) ≤ 1048576)
    (a : Option Addr) (b off cap : Nat) (a' : Option Addr) (b' off' cap' : Nat) (w : World) (hga : 0 < n → a = some ⟨b, off, none⟩) (hR : RulesIn AnyB w b off n N K M)
    (hga' : 0 < n → a' = some ⟨b', off', none⟩) (hR' : RulesIn AnyB w b' off' n N K M') :
    Calls Tryz.prog 8 #[.slice a n cap, .slice a' n cap'] w fun e w' => e = .returned (.bool true) ∧ Below w.heap.size w w' := by
  have hnn : ((n : Int) != (n : Int)) = false := by simp
  go_enter Tryz.func8, Tryz.ntmps8
  go_wp2_with fail
  go_loopw [5] (fun i wr => ∃ k : Nat, k ≤ n ∧ i = .int .i64 k ∧ Below w.heap.size w wr) (fun i _ => n - (intOf i).toNat)
  case atStart => exact ⟨0, Nat.zero_le _, rfl, Below.refl _ _⟩
  case round =>
    obtain ⟨k, hk', rfl, hB⟩ := hrel
    by_cases hlt : k < n
    · obtain rfl := hga (by omega)
      obtain rfl := hga' (by omega)
      have hltz : (k : Int) < (n : Int) := by omega
      obtain ⟨hat, hin⟩ := hR k hlt
      obtain ⟨hat', hin'⟩ := hR' k hlt
      obtain ⟨d0, d1, d2, d3⟩ := (hat.below hB).cells
      obtain ⟨y0, y1, y2, y3⟩ := (hat'.below hB).cells
      have HC : Hid (Calls Tryz.prog 17 #[rv (N k) (K k) (M k), rv (N k) (K k) (M' k)] wr.drew fun e w' => e = .returned (.bool true) ∧ Below wr.drew.heap.size wr.drew w') := eqRule_same _ _ _ _ wr.drew ((hin.below hB).below (Below.refl _ _).drew) ((hin'.below hB).below (Below.refl _ _).drew) (hc k hlt)
      clear hat hat' hin hin'
      simp only [rv] at HC
      go_wp2_with fail
      go_region_with (go_at_call 17; refine HC.out.mono ?_; rintro e w1 ⟨rfl, hb1⟩)
      all_goals go_wp2_with fail
      all_goals
        go_roundw
        case rel => exact ⟨k + 1, by omega, by go_num, hB.drew.trans (hb1.mono hB.size)⟩
        case measure => simp [intOf]; omega
    · go_wp2_with fail
      go_ret
      exact ⟨rfl, hB⟩
end Go.Proofs.YtcpbkkdjaojfiaaGreatDoor

