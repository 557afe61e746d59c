/- lists of tokens compared: eqTokenS, both LexSame -/
import Derived.Test.YtolddecfibdblaaDoorXa
import Derived.Laws.StructEq
namespace Go.Proofs.YtolddecfibdblaaDoor
open Go.RowKit
set_option linter.unusedVariables false
set_option linter.unusedSimpArgs false

set_option maxHeartbeats 400000 in
theorem eqTokS_any (a a' : Option Addr) (b off cap n b' off' cap' m : Nat) (K K' : Nat → Tk) (w : World) (hga : 0 < n → a = some ⟨b, off, none⟩) (hc : TkIn w b off n K)
    (hga' : 0 < m → a' = some ⟨b', off', none⟩) (hc' : TkIn w b' off' m K') (hn : n ≤ 4194304) (hm : m ≤ 4194304) :
    Calls Tryd.prog 18 #[.slice a n cap, .slice a' m cap'] w fun e w' => e = .returned (.bool (eqTB n K m K')) ∧ Below w.heap.size w w' := by
  by_cases hnm : n = m
  · subst hnm
    have hnn : ((n : Int) != (n : Int)) = false := by simp
    go_enter Tryd.func18, Tryd.ntmps18
    go_wp2
    go_loopw [5] (fun i wr => ∃ k : Nat, k ≤ n ∧ i = .int .i64 k ∧ Hid (∀ j, j < k → K j = K' j) ∧ Below w.heap.size w wr) (fun i _ => n - (intOf i).toNat)
    case atStart => exact ⟨0, Nat.zero_le _, rfl, fun j hj => absurd hj (Nat.not_lt_zero _), Below.refl _ _⟩
    case round =>
      obtain ⟨k, hk, rfl, Hall, hB⟩ := hrel
      by_cases hlt : k < n
      · obtain rfl := hga (by omega)
        obtain rfl := hga' (by omega)
        have hltz : (k : Int) < (n : Int) := by omega
        obtain ⟨c1, c2, c3⟩ := (hc.below hB) k hlt
        obtain ⟨c4, c5, c6⟩ := (hc'.below hB) k hlt
        by_cases hk' : K k = K' k
        · have hbt : tkB (K k) (K' k) = true := tkB_iff.2 hk'
          have HEQ := eqT_step Hall.out hk'
          have HEQ' : Hid (∀ j, j < k + 1 → K j = K' j) := HEQ
          clear HEQ hk'
          go_wp2_with fail
          go_region_with (go_at_call 40; refine (eqTok_any _ _ _).mono ?_; rintro e w1 ⟨rfl, hb1⟩)
          all_goals go_wp2
          all_goals
            (go_roundw
             case rel => exact ⟨k + 1, by omega, by go_num, HEQ'.out, hB.drew.trans (hb1.mono hB.size)⟩
             case measure => simp [intOf]; omega)
        · have hbt : tkB (K k) (K' k) = false := tkB_ne hk'
          have HNE : Hid (eqTB n K n K' = false) := eqTB_at hlt hk'
          clear hk'
          go_wp2_with fail
          go_region_with (go_at_call 40; refine (eqTok_any _ _ _).mono ?_; rintro e w1 ⟨rfl, hb1⟩)
          all_goals go_wp2
          all_goals
            (go_ret
             exact ⟨ret_bool HNE.out.symm, hB.drew.trans (hb1.mono hB.size)⟩)
      · go_wp2
        go_ret
        obtain rfl : k = n := by omega
        exact ⟨ret_bool (eqTB_all Hall.out).symm, hB⟩
  · have hnn : ((n : Int) != (m : Int)) = true := by simp; omega
    go_enter Tryd.func18, Tryd.ntmps18
    go_wp2
    go_ret
    exact ⟨ret_bool (eqTB_len hnm).symm, Below.refl _ _⟩

theorem eqTokV (x y : Tk) (w : World) : (Op.equalIn 10000 59 (.agg #[.int .i64 x.r, .int .i64 x.f, .int .i64 x.t]) (.agg #[.int .i64 y.r, .int .i64 y.f, .int .i64 y.t])).run Tryd.prog w = .ok (tkB x y) w := by
  have hS : Tryd.prog.underlying 59 = some (.struct (Tryd.prog.fieldsOf 59)) := by kernel_rfl
  have hp : Tryd.prog.stoodInHeld 59 = false := by kernel_rfl
  have u3 := Tryd.underlying3
  rw [run_equalIn_agg w 9999 _ _ _ hS hp]
  clear hS hp
  simp only [Program.fieldsOf, Tryd.underlying59]
  unfold tkB
  by_cases h0 : x.r = y.r <;> by_cases h1 : x.f = y.f <;> by_cases h2 : x.t = y.t <;> simp [Op.eqFields, go_sem, run_equalIn_int w _ 3 .i64 .i64 _ _ u3, h0, h1, h2, Tryd.sizeOf3]
theorem eqlTok (x y : Tk) (w : World) : (binOp .eql 59 (.agg #[.int .i64 x.r, .int .i64 x.f, .int .i64 x.t]) (.agg #[.int .i64 y.r, .int .i64 y.f, .int .i64 y.t])).run Tryd.prog w = .ok (.bool (tkB x y)) w := by
  rw [run_eql_struct, eqTokV]
  rfl

end Go.Proofs.YtolddecfibdblaaDoor

