/- the model's SetOk, which only reads; l2Kids -/
import Derived.Test.YtolddecfibdblaaDoorTa
namespace Go.Proofs.YtolddecfibdblaaDoor
open Go.RowKit
set_option linter.unusedVariables false
set_option linter.unusedSimpArgs false

/-- a block of plain cells -/
def Soft (w : World) (k : Nat) : Prop := ∃ cs t, w.heap[k]? = some (.cells cs t (0, 0))
theorem Soft.lt {w : World} {k : Nat} (h : Soft w k) : k < w.heap.size := by
  obtain ⟨cs, t, h⟩ := h
  rcases Nat.lt_or_ge k w.heap.size with h' | h'
  · exact h'
  · simp [Array.getElem?_eq_none h'] at h
theorem Soft.of_block {w w' : World} {k : Nat} (h : Soft w k) (e : w'.heap[k]? = w.heap[k]?) : Soft w' k := by
  obtain ⟨cs, t, h⟩ := h
  exact ⟨cs, t, e.trans h⟩
theorem Soft.below {w w' : World} {k : Nat} (h : Soft w k) (hb : Below w.heap.size w w') : Soft w' k := h.of_block (hb.block k h.lt)
theorem Soft.row {w : World} {b t n : Nat} {f : Nat → Value} (h : w.rowIs b t n f) : Soft w b := by
  obtain ⟨c, h, _⟩ := h
  exact ⟨c, t, h⟩

/-- the cells of a row of Rex, by their place -/
def flat3 (K : Nat → Sh) (M : Nat → Mx) (j : Nat) : Value := if j % 3 = 0 then .int .i64 (K (j / 3)).kind else if j % 3 = 1 then (M (j / 3)).sv else (M (j / 3)).kv
theorem flat3_0 (K : Nat → Sh) (M : Nat → Mx) (i : Nat) : flat3 K M (i * 3) = .int .i64 (K i).kind := by
  unfold flat3; rw [if_pos (by omega), show i * 3 / 3 = i by omega]
theorem flat3_1 (K : Nat → Sh) (M : Nat → Mx) (i : Nat) : flat3 K M (i * 3 + 1) = (M i).sv := by
  unfold flat3; rw [if_neg (by omega), if_pos (by omega), show (i * 3 + 1) / 3 = i by omega]
theorem flat3_2 (K : Nat → Sh) (M : Nat → Mx) (i : Nat) : flat3 K M (i * 3 + 2) = (M i).kv := by
  unfold flat3; rw [if_neg (by omega), if_neg (by omega), show (i * 3 + 2) / 3 = i by omega]
theorem Kid.of_row {w : World} {b t n i : Nat} {K : Nat → Sh} {M : Nat → Mx} (h : w.rowIs b t (n * 3) (flat3 K M)) (hi : i < n) : Kid w b (0 + i * 3) (K i) (M i) := by
  have h0 := h.cell (i := i * 3) (by omega)
  have h1 := h.cell (i := i * 3 + 1) (by omega)
  have h2 := h.cell (i := i * 3 + 2) (by omega)
  rw [flat3_0] at h0
  rw [flat3_1] at h1
  rw [flat3_2] at h2
  exact ⟨by simpa using h0, by simpa using h1, by simpa using h2⟩

theorem Soft.set {w : World} {k : Nat} (h : Soft w k) (p : Addr) (u : Value) : Soft (w.setCell p u) k := by
  by_cases e : k = p.block
  · obtain ⟨cs, t, h⟩ := h
    subst e
    simp [Soft, World.setCell, Array.getElem?_modify, h]
  · exact h.of_block (Below.heap_setCell _ _ _ _ e)
end Go.Proofs.YtolddecfibdblaaDoor
namespace Go.Proofs.YtolddecfibdblaaDoor
open Go.RowKit
set_option linter.unusedVariables false
set_option linter.unusedSimpArgs false

theorem bcell {W w1 : World} (hb : Below W.heap.size W w1) : (∀ b o, b < W.heap.size → w1.cell? ⟨b, o, none⟩ = W.cell? ⟨b, o, none⟩) ∧ (∀ b o, b < W.heap.size → w1.frozen? ⟨b, o, none⟩ = W.frozen? ⟨b, o, none⟩) :=
  ⟨fun b o h => hb.cell (p := ⟨b, o, none⟩) h, fun b o h => hb.frozen (p := ⟨b, o, none⟩) h⟩

end Go.Proofs.YtolddecfibdblaaDoor
namespace Go.Proofs.YtolddecfibdblaaDoor
open Go.RowKit
set_option linter.unusedVariables false
set_option linter.unusedSimpArgs false

set_option maxHeartbeats 400000 in
theorem specSetOk_q (a : Option Addr) (b off cap n : Nat) (L H : Nat → Int) (w : World) (hga : 0 < n → a = some ⟨b, off, none⟩) (hc : Sp w b off n L H) (hn : n ≤ 4194304) :
    Calls Tryd.prog 56 #[.slice a n cap] w fun e w' => e = .returned (.bool (okB n L H)) ∧ ∃ q, w' = w.drewN q := by
  go_enter Tryd.func56, Tryd.ntmps56
  go_wp2
  go_loopw [3] (fun i wr => ∃ (k : Nat), k ≤ n ∧ i = .int .i64 k ∧ Hid (∀ j, j < k → OkAt L H j) ∧ ∃ q, wr = w.drewN q) (fun i _ => n - (intOf i).toNat)
  case atStart => exact ⟨0, Nat.zero_le _, rfl, fun j hj => absurd hj (Nat.not_lt_zero _), ⟨0, rfl⟩⟩
  case round =>
    obtain ⟨k, hk, rfl, Hall, q, rfl⟩ := hrel
    by_cases hlt : k < n
    · obtain rfl := hga (by omega)
      have hltz : (k : Int) < (n : Int) := by omega
      obtain ⟨c1, c2⟩ := hc k hlt
      have no : ∀ (h : ¬ OkAt L H k), Ending.returned (.bool false) = .returned (.bool (okB n L H)) := fun h => ret_bool (okB_false hlt h).symm
      have No : Hid (¬ OkAt L H k → Ending.returned (.bool false) = .returned (.bool (okB n L H))) := no
      clear no
      by_cases t1 : L k < 0
      · go_wp2_with fail
        go_quiet (fail)
        go_wp2
        go_ret
        exact ⟨No.out (by unfold OkAt; omega), ⟨_, by first | rfl | exact World.drewN_drewN _ _ _⟩⟩
      have t1' : decide (L k < 0) = false := by simpa using t1
      by_cases t2 : 255 < H k
      · go_wp2_with fail
        go_quiet (fail)
        go_wp2
        go_ret
        exact ⟨No.out (by unfold OkAt; omega), ⟨_, by first | rfl | exact World.drewN_drewN _ _ _⟩⟩
      have t2' : decide (255 < H k) = false := by simpa using t2
      by_cases t3 : H k < L k
      · go_wp2_with fail
        go_quiet (fail)
        go_wp2
        go_ret
        exact ⟨No.out (by unfold OkAt; omega), ⟨_, by first | rfl | exact World.drewN_drewN _ _ _⟩⟩
      have t3' : decide (H k < L k) = false := by simpa using t3
      by_cases t4 : 0 < k
      · have t4z : (0 : Int) < (k : Int) := by omega
        have hk1 := Hall.out (k - 1) (by omega)
        obtain ⟨q1, q2, q3, _⟩ := hk1
        obtain ⟨c3, c4⟩ := hc (k - 1) (by omega)
        by_cases t5 : L k ≤ H (k - 1) + 1
        · go_wp2_with fail
          go_quiet (fail)
          go_wp2
          go_ret
          exact ⟨No.out (fun o => by have := o.2.2.2 t4; omega), ⟨_, by first | rfl | exact World.drewN_drewN _ _ _⟩⟩
        · have t5' : decide (L k ≤ H (k - 1) + 1) = false := by simpa using t5
          go_wp2_with fail
          go_quiet (fail)
          go_wp2
          go_roundw
          case rel => exact ⟨k + 1, by omega, by go_num, ok_step Hall.out (by unfold OkAt; omega), ⟨_, by first | rfl | exact World.drewN_drewN _ _ _⟩⟩
          case measure => simp [intOf]; omega
      · have t4' : decide ((0 : Int) < (k : Int)) = false := by simp; omega
        go_wp2_with fail
        go_quiet (fail)
        go_wp2
        go_roundw
        case rel => exact ⟨k + 1, by omega, by go_num, ok_step Hall.out (by unfold OkAt; omega), ⟨_, by first | rfl | exact World.drewN_drewN _ _ _⟩⟩
        case measure => simp [intOf]; omega
    · go_wp2
      go_ret
      obtain rfl : k = n := by omega
      exact ⟨ret_bool (okB_true Hall.out).symm, ⟨_, by first | rfl | exact World.drewN_drewN _ _ _⟩⟩

end Go.Proofs.YtolddecfibdblaaDoor

