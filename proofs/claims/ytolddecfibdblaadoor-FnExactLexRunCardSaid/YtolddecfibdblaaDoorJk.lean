/- the walks of allWithin, rowsOk, accOk -/
import Derived.Test.YtolddecfibdblaaDoorJe
namespace Go.Proofs.YtolddecfibdblaaDoor
open Go.RowKit
set_option linter.unusedVariables false
set_option linter.unusedSimpArgs false

/-- all n numbers are from lo to hi -/
def Within (n : Nat) (G : Nat → Int) (lo hi : Int) : Prop := ∀ i, i < n → lo ≤ G i ∧ G i ≤ hi

set_option maxHeartbeats 1000000 in
theorem outside_any (x lo hi : Int) (p q : Nat) (w : World) (hp : w.cell? ⟨p, 0, none⟩ = some (.int .i64 lo)) (hq : w.cell? ⟨q, 0, none⟩ = some (.int .i64 hi)) :
    Calls Tryd.prog 74 #[.int .i64 x, .pointer (some ⟨p, 0, none⟩), .pointer (some ⟨q, 0, none⟩)] w fun e w' => e = .returned (.bool (decide (x < lo) || decide (hi < x))) ∧ w' = w := by
  by_cases h1 : x < lo
  · have d1 : decide (x < lo) = true := by simp [h1]
    rw [d1]
    go_enter Tryd.func74, Tryd.ntmps74
    go_wp2_with fail
    go_ret
    exact ⟨by simp [go_sem], rfl⟩
  · have d1 : decide (x < lo) = false := by simp; omega
    by_cases h2 : hi < x
    · have d2 : decide (hi < x) = true := by simp [h2]
      rw [d1, d2]
      go_enter Tryd.func74, Tryd.ntmps74
      go_wp2_with fail
      go_ret
      exact ⟨by simp [go_sem], rfl⟩
    · have d2 : decide (hi < x) = false := by simp; omega
      rw [d1, d2]
      go_enter Tryd.func74, Tryd.ntmps74
      go_wp2_with fail
      go_ret
      exact ⟨by simp [go_sem], rfl⟩

set_option maxHeartbeats 1000000 in
theorem indexInts_any (a : Option Addr) (b off cap n : Nat) (G : Nat → Int) (lo hi : Int) (p q : Nat) (w : World) (hga : 0 < n → a = some ⟨b, off, none⟩) (hc : Ip w b off n G) (hn : n ≤ 4194304)
    (hp : w.cell? ⟨p, 0, none⟩ = some (.int .i64 lo)) (hq : w.cell? ⟨q, 0, none⟩ = some (.int .i64 hi)) :
    Calls Tryd.prog 75 #[.slice a n cap, .func (.func 74) #[] #[.pointer (some ⟨p, 0, none⟩), .pointer (some ⟨q, 0, none⟩)]] w fun e w' => (∃ r : Int, e = .returned (.int .i64 r) ∧ (0 ≤ r ↔ ¬ Within n G lo hi)) ∧ w' = w := by
  go_enter Tryd.func75, Tryd.ntmps75
  go_wp2_with fail
  go_loop [8] (fun i => ∃ k : Nat, k ≤ n ∧ i = .int .i64 k ∧ Hid (Within k G lo hi)) (fun i => n - (intOf i).toNat)
  case atStart => exact ⟨0, Nat.zero_le _, rfl, fun j hj => absurd hj (Nat.not_lt_zero _)⟩
  case round =>
    obtain ⟨k, hk, rfl, HW⟩ := hrel
    by_cases hlt : k < n
    · obtain rfl := hga (by omega)
      have hltz : (k : Int) < (n : Int) := by omega
      have c1 := hc k hlt
      have HO := outside_any (G k) lo hi p q w hp hq
      cases hb : (decide (G k < lo) || decide (hi < G k))
      · rw [hb] at HO
        have HOO : Hid (Calls Tryd.prog 74 #[.int .i64 (G k), .pointer (some ⟨p, 0, none⟩), .pointer (some ⟨q, 0, none⟩)] w fun e w' => e = .returned (.bool false) ∧ w' = w) := HO
        have HB : Hid (lo ≤ G k ∧ G k ≤ hi) := by simp at hb; exact hb
        clear HO hb
        go_wp2_with fail
        refine HOO.out.mono ?_
        rintro e w1 ⟨rfl, hw⟩
        subst w1
        go_wp2_with fail
        go_round
        case rel => exact ⟨k + 1, by omega, by go_num, fun j hj => (by by_cases ej : j = k; exact ej ▸ HB.out; exact HW.out j (by omega))⟩
        case measure => simp [intOf]; omega
      · rw [hb] at HO
        have HOO : Hid (Calls Tryd.prog 74 #[.int .i64 (G k), .pointer (some ⟨p, 0, none⟩), .pointer (some ⟨q, 0, none⟩)] w fun e w' => e = .returned (.bool true) ∧ w' = w) := HO
        have HB : Hid (¬ Within n G lo hi) := fun h => by have := h k hlt; simp at hb; omega
        clear HO hb
        go_wp2_with fail
        refine HOO.out.mono ?_
        rintro e w1 ⟨rfl, hw⟩
        subst w1
        go_wp2_with fail
        go_ret
        exact ⟨⟨(k : Int), rfl, ⟨fun _ => HB.out, fun _ => by omega⟩⟩, rfl⟩
    · have hltz : ¬ (k : Int) < (n : Int) := by omega
      have hek : k = n := by omega
      go_wp2_with fail
      go_ret
      exact ⟨⟨-1, rfl, ⟨fun h => by omega, fun h => absurd (hek ▸ HW.out) h⟩⟩, rfl⟩

set_option maxHeartbeats 1000000 in
theorem within_any (a : Option Addr) (b off cap n : Nat) (G : Nat → Int) (lo hi : Int) (w : World) (hga : 0 < n → a = some ⟨b, off, none⟩) (hc : Ip w b off n G) (hn : n ≤ 4194304) :
    Calls Tryd.prog 68 #[.slice a n cap, .int .i64 lo, .int .i64 hi] w (IsB (Within n G lo hi) w) := by
  have HI : Hid (∀ W p q, Below w.heap.size w W → W.cell? ⟨p, 0, none⟩ = some (.int .i64 lo) → W.cell? ⟨q, 0, none⟩ = some (.int .i64 hi) → Calls Tryd.prog 73 #[.slice a n cap, .func (.func 74) #[] #[.pointer (some ⟨p, 0, none⟩), .pointer (some ⟨q, 0, none⟩)]] W fun e w' => (∃ r : Bool, e = .returned (.bool r) ∧ (r = true ↔ ¬ Within n G lo hi)) ∧ w' = W) := by
    intro W p q hW hp hq
    have HX : Hid (Calls Tryd.prog 75 #[.slice a n cap, .func (.func 74) #[] #[.pointer (some ⟨p, 0, none⟩), .pointer (some ⟨q, 0, none⟩)]] W fun e w' => (∃ r : Int, e = .returned (.int .i64 r) ∧ (0 ≤ r ↔ ¬ Within n G lo hi)) ∧ w' = W) := indexInts_any a b off cap n G lo hi p q W hga (hc.below hW) hn hp hq
    go_enter Tryd.func73, Tryd.ntmps73
    go_wp2_with fail
    refine HX.out.mono ?_
    rintro e w1 ⟨⟨r, rfl, hr⟩, hw⟩
    subst w1
    have HR : Hid (0 ≤ r ↔ ¬ Within n G lo hi) := hr
    clear hr
    go_wp2_with fail
    go_ret
    exact ⟨⟨decide (0 ≤ r), rfl, by rw [decide_eq_true_eq]; exact HR.out⟩, rfl⟩
  have hb0 : Below w.heap.size w ((w.alloc (.cells #[.int .i64 lo] 3)).alloc (.cells #[.int .i64 hi] 3)) := ((Below.refl _ _).alloc (Nat.le_refl _) _).alloc (by simp) _
  clear hga hc
  go_enter Tryd.func68, Tryd.ntmps68
  go_wp2_with fail
  refine (HI.out _ _ _ hb0 (by simp [go_sem]) (by simp [go_sem])).mono ?_
  rintro e w1 ⟨⟨r, rfl, hr⟩, hw⟩
  subst w1
  have HR : Hid (r = true ↔ ¬ Within n G lo hi) := hr
  clear hr
  go_wp2_with fail
  go_ret
  refine ⟨!r, rfl, ?_, hb0⟩
  have := HR.out
  cases r
  · simp at this ⊢; exact this
  · simp at this ⊢; exact this
end Go.Proofs.YtolddecfibdblaaDoor

