/- the walks of the two SetOk -/
import Derived.Test.YtcpbkkdjaojfiaaGreatDoorWb
namespace Go.Proofs.YtcpbkkdjaojfiaaGreatDoor
open Go.RowKit
set_option linter.unusedVariables false
set_option linter.unusedSimpArgs false

set_option maxHeartbeats 400000 in
theorem implSetOk_any (a : Option Addr) (b off cap n : Nat) (L H : Nat → Int) (w : World) (hga : 0 < n → a = some ⟨b, off, none⟩) (hc : Sp w b off n L H) (hn : n ≤ 4194304) :
    Calls Tryz.prog 69 #[.slice a n cap] w fun e w' => e = .returned (.bool (okB n L H)) ∧ Below w.heap.size w w' := by
  go_enter Tryz.func69, Tryz.ntmps69
  go_wp2
  go_loopw [3, 8] (fun t i wr => ∃ (k : Nat) (m : Int), k ≤ n ∧ i = .int .i64 k ∧ t = .int .i64 m ∧ Hid (m = leastAt H k ∧ ∀ j, j < k → OkAt L H j) ∧ Below w.heap.size w wr) (fun _ i _ => n - (intOf i).toNat)
  case atStart => exact ⟨0, 0, Nat.zero_le _, rfl, rfl, ⟨rfl, fun j hj => absurd hj (Nat.not_lt_zero _)⟩, Below.refl _ _⟩
  case round =>
    obtain ⟨k, m, hk, rfl, rfl, Hall, hB⟩ := hrel
    by_cases hlt : k < n
    · obtain rfl := hga (by omega)
      have hltz : (k : Int) < (n : Int) := by omega
      obtain ⟨c1, c2⟩ := (hc.below hB) k hlt
      have hm : 0 ≤ m ∧ m ≤ 257 := by have := leastAt_bd Hall.out.2; rw [Hall.out.1]; exact this
      obtain ⟨hm0, hm1⟩ := hm
      go_wp2
      all_goals first
        | (go_roundw; case rel => exact ⟨k + 1, H k + 2, by omega, by go_num, rfl, ⟨(leastAt_succ H k).symm, ok_step Hall.out.2 ((okAt_least Hall.out.2).2 (by rw [← Hall.out.1]; omega))⟩, hB.alloc hB.size _⟩
           case measure => simp [intOf]; omega)
        | (go_ret; exact ⟨ret_bool (okB_false hlt (fun o => by have := (okAt_least Hall.out.2).1 o; rw [← Hall.out.1] at this; omega)).symm, hB.alloc hB.size _⟩)
    · go_wp2
      go_ret
      obtain rfl : k = n := by omega
      exact ⟨ret_bool (okB_true Hall.out.2).symm, hB⟩

end Go.Proofs.YtcpbkkdjaojfiaaGreatDoor

