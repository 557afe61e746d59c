/- A range over a function whose body may panic: the laws of the walk for it, over whatever program; no Go text is walked here. -/
import Derived.Test.YtolddecfibdblaaDoorYa
import Derived.RangeFuncNested
import Derived.RangeFuncBound
import Derived.RangeFuncCalls
import Derived.RangeFuncLeaves
import Derived.Below
namespace Go.Proofs.YtolddecfibdblaaDoor
open Go.RowKit
set_option linter.unusedVariables false
set_option linter.unusedSimpArgs false

set_option maxHeartbeats 400000 in
theorem implSetOk_any (a : Option Addr) (b off cap n : Nat) (L H : Nat → Int) (w : World) (hga : 0 < n → a = some ⟨b, off, none⟩) (hc : Sp w b off n L H) (hn : n ≤ 4194304) :
    Calls Tryd.prog 62 #[.slice a n cap] w fun e w' => e = .returned (.bool (okB n L H)) ∧ Below w.heap.size w w' := by
  go_enter Tryd.func62, Tryd.ntmps62
  go_wp2
  go_loopw [3, 8] (fun t i wr => ∃ (k : Nat) (m : Int), k ≤ n ∧ i = .int .i64 k ∧ t = .int .i64 m ∧ Hid (m = leastAt H k ∧ ∀ j, j < k → OkAt L H j) ∧ Below w.heap.size w wr) (fun _ i _ => n - (intOf i).toNat)
  case atStart => exact ⟨0, 0, Nat.zero_le _, rfl, rfl, ⟨rfl, fun j hj => absurd hj (Nat.not_lt_zero _)⟩, Below.refl _ _⟩
  case round =>
    obtain ⟨k, m, hk, rfl, rfl, Hall, hB⟩ := hrel
    by_cases hlt : k < n
    · obtain rfl := hga (by omega)
      have hltz : (k : Int) < (n : Int) := by omega
      obtain ⟨c1, c2⟩ := (hc.below hB) k hlt
      have hm : 0 ≤ m ∧ m ≤ 257 := by have := leastAt_bd Hall.out.2; rw [Hall.out.1]; exact this
      obtain ⟨hm0, hm1⟩ := hm
      go_wp2
      all_goals first
        | (go_roundw; case rel => exact ⟨k + 1, H k + 2, by omega, by go_num, rfl, ⟨(leastAt_succ H k).symm, ok_step Hall.out.2 ((okAt_least Hall.out.2).2 (by rw [← Hall.out.1]; omega))⟩, hB.alloc hB.size _⟩
           case measure => simp [intOf]; omega)
        | (go_ret; exact ⟨ret_bool (okB_false hlt (fun o => by have := (okAt_least Hall.out.2).1 o; rw [← Hall.out.1] at this; omega)).symm, hB.alloc hB.size _⟩)
    · go_wp2
      go_ret
      obtain rfl : k = n := by omega
      exact ⟨ret_bool (okB_true Hall.out.2).symm, hB⟩

set_option maxHeartbeats 400000 in
theorem specSetOk_any (a : Option Addr) (b off cap n : Nat) (L H : Nat → Int) (w : World) (hga : 0 < n → a = some ⟨b, off, none⟩) (hc : Sp w b off n L H) (hn : n ≤ 4194304) :
    Calls Tryd.prog 56 #[.slice a n cap] w fun e w' => e = .returned (.bool (okB n L H)) ∧ Below w.heap.size w w' := by
  go_enter Tryd.func56, Tryd.ntmps56
  go_wp2
  go_loopw [3] (fun i wr => ∃ (k : Nat), k ≤ n ∧ i = .int .i64 k ∧ Hid (∀ j, j < k → OkAt L H j) ∧ Below w.heap.size w wr) (fun i _ => n - (intOf i).toNat)
  case atStart => exact ⟨0, Nat.zero_le _, rfl, fun j hj => absurd hj (Nat.not_lt_zero _), Below.refl _ _⟩
  case round =>
    obtain ⟨k, hk, rfl, Hall, hB⟩ := hrel
    by_cases hlt : k < n
    · obtain rfl := hga (by omega)
      have hltz : (k : Int) < (n : Int) := by omega
      obtain ⟨c1, c2⟩ := (hc.below hB) k hlt
      have no : ∀ (h : ¬ OkAt L H k), Ending.returned (.bool false) = .returned (.bool (okB n L H)) := fun h => ret_bool (okB_false hlt h).symm
      have No : Hid (¬ OkAt L H k → Ending.returned (.bool false) = .returned (.bool (okB n L H))) := no
      clear no
      by_cases t1 : L k < 0
      · go_wp2_with fail
        go_quiet (fail)
        go_wp2
        go_ret
        exact ⟨No.out (by unfold OkAt; omega), below_drewN hB _⟩
      have t1' : decide (L k < 0) = false := by simpa using t1
      by_cases t2 : 255 < H k
      · go_wp2_with fail
        go_quiet (fail)
        go_wp2
        go_ret
        exact ⟨No.out (by unfold OkAt; omega), below_drewN hB _⟩
      have t2' : decide (255 < H k) = false := by simpa using t2
      by_cases t3 : H k < L k
      · go_wp2_with fail
        go_quiet (fail)
        go_wp2
        go_ret
        exact ⟨No.out (by unfold OkAt; omega), below_drewN hB _⟩
      have t3' : decide (H k < L k) = false := by simpa using t3
      by_cases t4 : 0 < k
      · have t4z : (0 : Int) < (k : Int) := by omega
        have hk1 := Hall.out (k - 1) (by omega)
        obtain ⟨q1, q2, q3, _⟩ := hk1
        obtain ⟨c3, c4⟩ := (hc.below hB) (k - 1) (by omega)
        by_cases t5 : L k ≤ H (k - 1) + 1
        · go_wp2_with fail
          go_quiet (fail)
          go_wp2
          go_ret
          exact ⟨No.out (fun o => by have := o.2.2.2 t4; omega), below_drewN hB _⟩
        · have t5' : decide (L k ≤ H (k - 1) + 1) = false := by simpa using t5
          go_wp2_with fail
          go_quiet (fail)
          go_wp2
          go_roundw
          case rel => exact ⟨k + 1, by omega, by go_num, ok_step Hall.out (by unfold OkAt; omega), below_drewN hB _⟩
          case measure => simp [intOf]; omega
      · have t4' : decide ((0 : Int) < (k : Int)) = false := by simp; omega
        go_wp2_with fail
        go_quiet (fail)
        go_wp2
        go_roundw
        case rel => exact ⟨k + 1, by omega, by go_num, ok_step Hall.out (by unfold OkAt; omega), below_drewN hB _⟩
        case measure => simp [intOf]; omega
    · go_wp2
      go_ret
      obtain rfl : k = n := by omega
      exact ⟨ret_bool (okB_true Hall.out).symm, hB⟩
end Go.Proofs.YtolddecfibdblaaDoor
namespace Go.Proofs.YtolddecfibdblaaDoor
open Go Go.RowKit
set_option linter.unusedVariables false
set_option linter.unusedSimpArgs false
variable {P : Program}

/-- all blocks but those of X lie as they lay; new ones may have come -/
structure Keeps (X : Nat → Prop) (W W' : World) : Prop where
  os : W'.os = W.os
  tape : W'.tape = W.tape
  output : W'.output = W.output
  size : W.heap.size ≤ W'.heap.size
  block : ∀ k, k < W.heap.size → ¬ X k → W'.heap[k]? = W.heap[k]?

theorem Keeps.refl (X : Nat → Prop) (W : World) : Keeps X W W := ⟨rfl, rfl, rfl, Nat.le_refl _, fun _ _ _ => rfl⟩
theorem Keeps.trans {X : Nat → Prop} {A B C : World} (h : Keeps X A B) (k : Keeps X B C) : Keeps X A C :=
  ⟨k.os.trans h.os, k.tape.trans h.tape, k.output.trans h.output, Nat.le_trans h.size k.size, fun i hi hx => (k.block i (Nat.lt_of_lt_of_le hi h.size) hx).trans (h.block i hi hx)⟩
theorem Keeps.mono {X Y : Nat → Prop} {A B : World} (h : Keeps X A B) (hxy : ∀ k, k < A.heap.size → X k → Y k) : Keeps Y A B :=
  ⟨h.os, h.tape, h.output, h.size, fun i hi hx => h.block i hi (fun e => hx (hxy i hi e))⟩
theorem Keeps.below {X : Nat → Prop} {A B : World} {m : Nat} (h : Keeps X A B) (hm : m ≤ A.heap.size) (hX : ∀ k, X k → m ≤ k) : Below m A B :=
  ⟨h.os, h.tape, h.output, h.size, fun i hi => h.block i (Nat.lt_of_lt_of_le hi hm) (fun e => absurd (hX i e) (by omega))⟩
theorem Keeps.cell {X : Nat → Prop} {A B : World} (h : Keeps X A B) {p : Addr} {v : Value} (hc : A.cell? p = some v) (hx : ¬ X p.block) : B.cell? p = some v :=
  (World.cell?_of_block (w := A) (h.block p.block (World.block_lt_of_cell? _ _ hc) hx)).trans hc
theorem Keeps.drew {X : Nat → Prop} {A B : World} (h : Keeps X A B) : Keeps X A B.drew := ⟨h.os, h.tape, h.output, h.size, h.block⟩
end Go.Proofs.YtolddecfibdblaaDoor

