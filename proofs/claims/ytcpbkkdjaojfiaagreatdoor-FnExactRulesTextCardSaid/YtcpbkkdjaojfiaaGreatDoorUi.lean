/- the walks of areRules and of impl's RulesOk; the law of RulesOk -/
import Derived.Test.YtcpbkkdjaojfiaaGreatDoorUg
import Derived.Test.YtcpbkkdjaojfiaaGreatDoorUh
import Derived.Test.YtcpbkkdjaojfiaaGreatDoorUd
namespace Go.Proofs.YtcpbkkdjaojfiaaGreatDoor
open Go.RowKit
set_option linter.unusedVariables false
set_option linter.unusedSimpArgs false

theorem areRules_nil (w : World) : Calls Tryz.prog 23 #[.nilIface] w fun e w' => e = .returned (.bool true) ∧ Below w.heap.size w w' := by
  go_enter Tryz.func23, Tryz.ntmps23
  go_wp2_with fail
  refine (as_nil _ _).mono ?_
  rintro e w1 ⟨rfl, rfl⟩
  go_wp2_with fail
  go_ret
  exact ⟨rfl, (Below.refl _ _).alloc (Nat.le_refl _) _⟩
theorem areRules_no (p : Int) (s : ByteArray) (w : World) (hg : ErrTy w) : Calls Tryz.prog 23 #[.iface 73 (.agg #[.int .i64 p, .string s])] w fun e w' => e = .returned (.bool false) ∧ Below w.heap.size w w' := by
  have hb0 : Below w.heap.size w (w.alloc (.cells #[.int .i64 0, .string ⟨#[]⟩] 73)) := (Below.refl _ _).alloc (Nat.le_refl _) _
  have HA : Hid (Calls Tryz.prog 37 #[.iface 73 (.agg #[.int .i64 p, .string s]), .iface 75 (.pointer (some ⟨w.heap.size, 0, none⟩))] (w.alloc (.cells #[.int .i64 0, .string ⟨#[]⟩] 73))
      fun e w' => e = .returned (.bool true) ∧ Below w.heap.size (w.alloc (.cells #[.int .i64 0, .string ⟨#[]⟩] 73)) w') :=
    as_hit p s w.heap.size (.int .i64 0) (.string ⟨#[]⟩) _ (hg.below hb0) (by simp [go_sem]) (by simp [go_sem]) (fun o => by simp [go_sem])
  go_enter Tryz.func23, Tryz.ntmps23
  go_wp2_with fail
  refine HA.out.mono ?_
  rintro e w1 ⟨rfl, hb1⟩
  go_wp2_with fail
  go_ret
  exact ⟨rfl, hb0.trans hb1⟩

set_option maxHeartbeats 1000000 in
theorem implRulesOk_any (a : Option Addr) (b off n cap : Nat) (N : Nat → ByteArray) (K : Nat → Sh) (M : Nat → Mx) (w : World) (t : TypeId) (ea : Addr) (hE : Err w t ea) (hG : ErrTy w) (hga : 0 < n → a = some ⟨b, off, none⟩) (hR : RulesIn AnyB w b off n N K M) (hn : n ≤ 1048576)
    (hN : ∀ i, i < n → (N i).size ≤ 1048576) (hc : ∀ i, i < n → cnt (K i) ≤ 1048576) :
    Calls Tryz.prog 13 #[.slice a n cap] w (RulesRes n N K w) := by
  have HC : Hid (Calls Tryz.prog 24 #[.slice a n cap] w (ErrRes n N K w)) := checkRules_any a b off n cap N K M w t ea hE hga hR hn hN hc
  go_enter Tryz.func13, Tryz.ntmps13
  go_wp2_with fail
  refine HC.out.mono ?_
  rintro e w1 ⟨⟨hgood, rfl⟩ | ⟨hbad, p, s, rfl⟩, hb1⟩
  · go_wp2_with fail
    refine (areRules_nil _).mono ?_
    rintro e w2 ⟨rfl, hb2⟩
    go_wp2_with fail
    go_ret
    exact .yes hgood (hb1.trans (hb2.mono hb1.size))
  · go_wp2_with fail
    refine (areRules_no p s _ (hG.below hb1)).mono ?_
    rintro e w2 ⟨rfl, hb2⟩
    go_wp2_with fail
    go_ret
    exact .no hbad (hb1.trans (hb2.mono hb1.size))

theorem cntS_at {N : Nat → ByteArray} {K : Nat → Sh} {n i : Nat} (h : i < n) : (N i).size ≤ cntS N K n ∧ cnt (K i) ≤ cntS N K n := by
  have := sumN_at (f := fun i => cntU (N i) (K i)) h
  simp only [cntU] at this
  have e : cntS N K n = sumN (fun i => (N i).size + cnt (K i)) n := rfl
  omega
end Go.Proofs.YtcpbkkdjaojfiaaGreatDoor

