/- the walks of the small methods of byteBits -/
import Derived.Test.YtolddecfibdblaaDoorBw
import Derived.Laws.BitsAllLaws
namespace Go.Proofs.YtolddecfibdblaaDoor
open Go.RowKit
set_option linter.unusedVariables false
set_option linter.unusedSimpArgs false

theorem box_row (w : World) (B : Nat → Bool) : (w.alloc (.cells #[wc B 0, wc B 1, wc B 2, wc B 3] 92)).rowIs w.heap.size 92 4 (wc B) := by
  refine World.rowIs_alloc w #[wc B 0, wc B 1, wc B 2, wc B 3] 92 _ (fun i hi => ?_)
  simp at hi
  have : i = 0 ∨ i = 1 ∨ i = 2 ∨ i = 3 := by omega
  rcases this with rfl | rfl | rfl | rfl <;> rfl

/-- the first k words are those of C, the others those of A -/
def mix (C A : Nat → Bool) (k i : Nat) : Value := if i < k then wc C i else wc A i

theorem mix_step {w : World} {g k : Nat} {C A : Nat → Bool} {v : Value} (h : w.rowIs g 92 4 (mix C A k)) (hv : v = wc C k) : (w.setCell ⟨g, k, none⟩ v).rowIs g 92 4 (mix C A (k + 1)) := by
  refine (h.set k v).congr (fun i _ => ?_)
  unfold mix
  by_cases e : i = k
  · subst e; rw [if_pos rfl, if_pos (by omega), hv]
  · rw [if_neg e]
    by_cases e2 : i < k
    · rw [if_pos e2, if_pos (by omega)]
    · rw [if_neg e2, if_neg (by omega)]

theorem or_words (A B : Nat → Bool) (k : Nat) : Value.int .u64 (bits BinOp.or IntKind.u64 ((W A k : Nat) : Int) ((W B k : Nat) : Int)) = wc (fun x => A x || B x) k := by
  rw [u64_or_nat _ _ (W_lt _ _) (W_lt _ _), W_or]
theorem and_words (A B : Nat → Bool) (k : Nat) : Value.int .u64 (bits BinOp.and IntKind.u64 ((W A k : Nat) : Int) ((W B k : Nat) : Int)) = wc (fun x => A x && B x) k := by
  rw [u64_and_nat _ _ (W_lt _ _) (W_lt _ _), W_and]
theorem not_words (B : Nat → Bool) (k : Nat) : Value.int .u64 (bits BinOp.xor IntKind.u64 18446744073709551615 ((W B k : Nat) : Int)) = wc (fun x => !B x) k := by
  rw [show (18446744073709551615 : Int) = ((18446744073709551615 : Nat) : Int) from rfl, u64_xor_nat _ _ (by omega) (W_lt _ _), W_not]

set_option maxHeartbeats 1000000 in
theorem meet_any (A B : Nat → Bool) (w : World) :
    Calls Tryd.prog 65 #[.agg #[wc A 0, wc A 1, wc A 2, wc A 3], .agg #[wc B 0, wc B 1, wc B 2, wc B 3]] w fun e w' =>
      e = .returned (.agg #[wc (fun x => A x && B x) 0, wc (fun x => A x && B x) 1, wc (fun x => A x && B x) 2, wc (fun x => A x && B x) 3]) ∧ Below w.heap.size w w' := by
  go_enter Tryd.func65, Tryd.ntmps65
  go_wp2
  go_loopw [6] (fun i wr => ∃ (k : Nat), k ≤ 4 ∧ i = .int .i64 k ∧ wr.rowIs w.heap.size 92 4 (mix (fun x => A x && B x) A k) ∧ wr.rowIs (w.heap.size + 1) 92 4 (wc B) ∧ wr.rowIs (w.heap.size + 1 + 1) 92 4 (fun _ => .int .u64 0) ∧ Below w.heap.size w wr) (fun i _ => 4 - (intOf i).toNat)
  case atStart =>
    refine ⟨0, by omega, rfl, ?_, ?_, ?_, ((((Below.refl _ _).alloc (Nat.le_refl _) _).alloc (by simp) _).alloc (by simp; omega) _)⟩
    · exact ((box_row w A).congr (fun i _ => by simp [mix])).alloc _ |>.alloc _
    · have h := box_row (w.alloc (.cells #[wc A 0, wc A 1, wc A 2, wc A 3] 92)) B
      rw [World.size_alloc] at h
      exact h.alloc _
    · have h := (zero_row ((w.alloc (.cells #[wc A 0, wc A 1, wc A 2, wc A 3] 92)).alloc (.cells #[wc B 0, wc B 1, wc B 2, wc B 3] 92)) (fun _ => false) rfl).congr (g := fun _ => .int .u64 0) (fun i _ => by show Value.int _ _ = _; rw [W_none]; rfl)
      rw [World.size_alloc, World.size_alloc] at h
      exact h
  case round =>
    obtain ⟨k, hk, rfl, r1, r2, r3, hB⟩ := hrel
    by_cases hlt : k < 4
    · have hltz : (k : Int) < 4 := by omega
      have c1 : wr.cell? ⟨w.heap.size, k, none⟩ = some (.int .u64 ((W A k : Nat) : Int)) := by have h := r1.cell hlt; rw [h]; simp [mix]
      have c2 : wr.cell? ⟨w.heap.size + 1, k, none⟩ = some (.int .u64 ((W B k : Nat) : Int)) := r2.cell hlt
      have f1 := r1.frozen k
      go_wp2_with fail
      go_region
      go_wp2
      go_roundw
      case rel => exact ⟨k + 1, by omega, by go_num, (mix_step r1 (and_words A B k)).drew, (r2.setOther (by simp) _).drew, (r3.setOther (by show w.heap.size + 1 + 1 ≠ w.heap.size; omega) _).drew, (hB.setCell (by simp) _).drew⟩
      case measure => simp [intOf]; omega
    · obtain rfl : k = 4 := by omega
      have e0 : wr.cell? ⟨w.heap.size, 0, none⟩ = some (.int .u64 ((W (fun x => A x && B x) 0 : Nat) : Int)) := by have h := r1.cell (i := 0) (by omega); rw [h]; simp [mix]
      have e1 : wr.cell? ⟨w.heap.size, 1, none⟩ = some (.int .u64 ((W (fun x => A x && B x) 1 : Nat) : Int)) := by have h := r1.cell (i := 1) (by omega); rw [h]; simp [mix]
      have e2 : wr.cell? ⟨w.heap.size, 2, none⟩ = some (.int .u64 ((W (fun x => A x && B x) 2 : Nat) : Int)) := by have h := r1.cell (i := 2) (by omega); rw [h]; simp [mix]
      have e3 : wr.cell? ⟨w.heap.size, 3, none⟩ = some (.int .u64 ((W (fun x => A x && B x) 3 : Nat) : Int)) := by have h := r1.cell (i := 3) (by omega); rw [h]; simp [mix]
      have g0 := r3.cell (i := 0) (by omega)
      have g1 := r3.cell (i := 1) (by omega)
      have g2 := r3.cell (i := 2) (by omega)
      have g3 := r3.cell (i := 3) (by omega)
      have f0 := r3.frozen 0
      have f1 := r3.frozen 1
      have f2 := r3.frozen 2
      have f3 := r3.frozen 3
      go_wp2
      refine bodyPost_ret (v := .agg #[wc (fun x => A x && B x) 0, wc (fun x => A x && B x) 1, wc (fun x => A x && B x) 2, wc (fun x => A x && B x) 3]) (by simp [results, Tryd.results65, go_sem, g0, g1, g2, g3]) rfl ⟨rfl, ?_⟩
      exact (((hB.setCell (by simp; omega) _).setCell (by simp; omega) _).setCell (by simp; omega) _).setCell (by simp; omega) _
set_option maxHeartbeats 1000000 in
theorem join_any (A B : Nat → Bool) (w : World) :
    Calls Tryd.prog 66 #[.agg #[wc A 0, wc A 1, wc A 2, wc A 3], .agg #[wc B 0, wc B 1, wc B 2, wc B 3]] w fun e w' =>
      e = .returned (.agg #[wc (fun x => A x || B x) 0, wc (fun x => A x || B x) 1, wc (fun x => A x || B x) 2, wc (fun x => A x || B x) 3]) ∧ Below w.heap.size w w' := by
  go_enter Tryd.func66, Tryd.ntmps66
  go_wp2
  go_loopw [6] (fun i wr => ∃ (k : Nat), k ≤ 4 ∧ i = .int .i64 k ∧ wr.rowIs w.heap.size 92 4 (mix (fun x => A x || B x) A k) ∧ wr.rowIs (w.heap.size + 1) 92 4 (wc B) ∧ wr.rowIs (w.heap.size + 1 + 1) 92 4 (fun _ => .int .u64 0) ∧ Below w.heap.size w wr) (fun i _ => 4 - (intOf i).toNat)
  case atStart =>
    refine ⟨0, by omega, rfl, ?_, ?_, ?_, ((((Below.refl _ _).alloc (Nat.le_refl _) _).alloc (by simp) _).alloc (by simp; omega) _)⟩
    · exact ((box_row w A).congr (fun i _ => by simp [mix])).alloc _ |>.alloc _
    · have h := box_row (w.alloc (.cells #[wc A 0, wc A 1, wc A 2, wc A 3] 92)) B
      rw [World.size_alloc] at h
      exact h.alloc _
    · have h := (zero_row ((w.alloc (.cells #[wc A 0, wc A 1, wc A 2, wc A 3] 92)).alloc (.cells #[wc B 0, wc B 1, wc B 2, wc B 3] 92)) (fun _ => false) rfl).congr (g := fun _ => .int .u64 0) (fun i _ => by show Value.int _ _ = _; rw [W_none]; rfl)
      rw [World.size_alloc, World.size_alloc] at h
      exact h
  case round =>
    obtain ⟨k, hk, rfl, r1, r2, r3, hB⟩ := hrel
    by_cases hlt : k < 4
    · have hltz : (k : Int) < 4 := by omega
      have c1 : wr.cell? ⟨w.heap.size, k, none⟩ = some (.int .u64 ((W A k : Nat) : Int)) := by have h := r1.cell hlt; rw [h]; simp [mix]
      have c2 : wr.cell? ⟨w.heap.size + 1, k, none⟩ = some (.int .u64 ((W B k : Nat) : Int)) := r2.cell hlt
      have f1 := r1.frozen k
      go_wp2_with fail
      go_region
      go_wp2
      go_roundw
      case rel => exact ⟨k + 1, by omega, by go_num, (mix_step r1 (or_words A B k)).drew, (r2.setOther (by simp) _).drew, (r3.setOther (by show w.heap.size + 1 + 1 ≠ w.heap.size; omega) _).drew, (hB.setCell (by simp) _).drew⟩
      case measure => simp [intOf]; omega
    · obtain rfl : k = 4 := by omega
      have e0 : wr.cell? ⟨w.heap.size, 0, none⟩ = some (.int .u64 ((W (fun x => A x || B x) 0 : Nat) : Int)) := by have h := r1.cell (i := 0) (by omega); rw [h]; simp [mix]
      have e1 : wr.cell? ⟨w.heap.size, 1, none⟩ = some (.int .u64 ((W (fun x => A x || B x) 1 : Nat) : Int)) := by have h := r1.cell (i := 1) (by omega); rw [h]; simp [mix]
      have e2 : wr.cell? ⟨w.heap.size, 2, none⟩ = some (.int .u64 ((W (fun x => A x || B x) 2 : Nat) : Int)) := by have h := r1.cell (i := 2) (by omega); rw [h]; simp [mix]
      have e3 : wr.cell? ⟨w.heap.size, 3, none⟩ = some (.int .u64 ((W (fun x => A x || B x) 3 : Nat) : Int)) := by have h := r1.cell (i := 3) (by omega); rw [h]; simp [mix]
      have g0 := r3.cell (i := 0) (by omega)
      have g1 := r3.cell (i := 1) (by omega)
      have g2 := r3.cell (i := 2) (by omega)
      have g3 := r3.cell (i := 3) (by omega)
      have f0 := r3.frozen 0
      have f1 := r3.frozen 1
      have f2 := r3.frozen 2
      have f3 := r3.frozen 3
      go_wp2
      refine bodyPost_ret (v := .agg #[wc (fun x => A x || B x) 0, wc (fun x => A x || B x) 1, wc (fun x => A x || B x) 2, wc (fun x => A x || B x) 3]) (by simp [results, Tryd.results66, go_sem, g0, g1, g2, g3]) rfl ⟨rfl, ?_⟩
      exact (((hB.setCell (by simp; omega) _).setCell (by simp; omega) _).setCell (by simp; omega) _).setCell (by simp; omega) _
set_option maxHeartbeats 1000000 in
theorem others_any (B : Nat → Bool) (w : World) :
    Calls Tryd.prog 67 #[.agg #[wc B 0, wc B 1, wc B 2, wc B 3]] w fun e w' =>
      e = .returned (.agg #[wc (fun x => !B x) 0, wc (fun x => !B x) 1, wc (fun x => !B x) 2, wc (fun x => !B x) 3]) ∧ Below w.heap.size w w' := by
  go_enter Tryd.func67, Tryd.ntmps67
  go_wp2
  go_loopw [4] (fun i wr => ∃ (k : Nat), k ≤ 4 ∧ i = .int .i64 k ∧ wr.rowIs w.heap.size 92 4 (mix (fun x => !B x) B k) ∧ wr.rowIs (w.heap.size + 1) 92 4 (fun _ => .int .u64 0) ∧ Below w.heap.size w wr) (fun i _ => 4 - (intOf i).toNat)
  case atStart =>
    refine ⟨0, by omega, rfl, ?_, ?_, (((Below.refl _ _).alloc (Nat.le_refl _) _).alloc (by simp) _)⟩
    · exact ((box_row w B).congr (fun i _ => by simp [mix])).alloc _
    · have h := (zero_row (w.alloc (.cells #[wc B 0, wc B 1, wc B 2, wc B 3] 92)) (fun _ => false) rfl).congr (g := fun _ => .int .u64 0) (fun i _ => by show Value.int _ _ = _; rw [W_none]; rfl)
      rw [World.size_alloc] at h
      exact h
  case round =>
    obtain ⟨k, hk, rfl, r1, r3, hB⟩ := hrel
    by_cases hlt : k < 4
    · have hltz : (k : Int) < 4 := by omega
      have c1 : wr.cell? ⟨w.heap.size, k, none⟩ = some (.int .u64 ((W B k : Nat) : Int)) := by have h := r1.cell hlt; rw [h]; simp [mix]
      have f1 := r1.frozen k
      go_wp2
      go_roundw
      case rel => exact ⟨k + 1, by omega, by go_num, (mix_step r1 (not_words B k)), (r3.setOther (by simp) _), (hB.setCell (by simp) _)⟩
      case measure => simp [intOf]; omega
    · obtain rfl : k = 4 := by omega
      have e0 : wr.cell? ⟨w.heap.size, 0, none⟩ = some (.int .u64 ((W (fun x => !B x) 0 : Nat) : Int)) := by have h := r1.cell (i := 0) (by omega); rw [h]; simp [mix]
      have e1 : wr.cell? ⟨w.heap.size, 1, none⟩ = some (.int .u64 ((W (fun x => !B x) 1 : Nat) : Int)) := by have h := r1.cell (i := 1) (by omega); rw [h]; simp [mix]
      have e2 : wr.cell? ⟨w.heap.size, 2, none⟩ = some (.int .u64 ((W (fun x => !B x) 2 : Nat) : Int)) := by have h := r1.cell (i := 2) (by omega); rw [h]; simp [mix]
      have e3 : wr.cell? ⟨w.heap.size, 3, none⟩ = some (.int .u64 ((W (fun x => !B x) 3 : Nat) : Int)) := by have h := r1.cell (i := 3) (by omega); rw [h]; simp [mix]
      have g0 := r3.cell (i := 0) (by omega)
      have g1 := r3.cell (i := 1) (by omega)
      have g2 := r3.cell (i := 2) (by omega)
      have g3 := r3.cell (i := 3) (by omega)
      have f0 := r3.frozen 0
      have f1 := r3.frozen 1
      have f2 := r3.frozen 2
      have f3 := r3.frozen 3
      go_wp2
      refine bodyPost_ret (v := .agg #[wc (fun x => !B x) 0, wc (fun x => !B x) 1, wc (fun x => !B x) 2, wc (fun x => !B x) 3]) (by simp [results, Tryd.results67, go_sem, g0, g1, g2, g3]) rfl ⟨rfl, ?_⟩
      exact (((hB.setCell (by simp) _).setCell (by simp) _).setCell (by simp) _).setCell (by simp) _

end Go.Proofs.YtolddecfibdblaaDoor

