/- the walk of the iterator over the runs, and of the list of them -/
import Derived.Test.YtjpmdbaalhieoaaDoorBg
import Derived.Test.YtjpmdbaalhieoaaDoorDe
import Derived.RangeFuncBox
import Derived.RangeFuncLeaves
import Derived.Shelf.Abstract
import Derived.OwnWalkIn
import Derived.TacticsInMore
import Derived.LoopNIn
import Derived.LoopIn
import Derived.Maps.AppendAt
namespace Go.Proofs.YtjpmdbaalhieoaaDoor
open Go.RowKit Go.Shelf

attribute [local go_sem] Oper.semAt_some

theorem below_grownB {w w' : World} (h : Below w.heap.size w w') : w.grownBy w' none := ⟨h.os, h.tape, h.output, h.size, fun k hk _ => h.block k hk⟩

/-- a run, as it is handed to the loop's body -/
abbrev encRun (x : Nat × Nat) : Array Value := #[.agg #[.int .i64 (x.1 : Int), .int .i64 (x.2 : Int)]]

theorem bits_cells {w : World} {b : Nat} {B : Nat → Bool} (h : w.rowIs b 40 4 (wc B)) : w.cell? ⟨b, 0, none⟩ = some (.int .u64 ((W B 0 : Nat) : Int)) ∧ w.cell? ⟨b, 1, none⟩ = some (.int .u64 ((W B 1 : Nat) : Int)) ∧
    w.cell? ⟨b, 2, none⟩ = some (.int .u64 ((W B 2 : Nat) : Int)) ∧ w.cell? ⟨b, 3, none⟩ = some (.int .u64 ((W B 3 : Nat) : Int)) :=
  ⟨h.cell (i := 0) (by omega), h.cell (i := 1) (by omega), h.cell (i := 2) (by omega), h.cell (i := 3) (by omega)⟩

/-- block Bn lies as it lay -/
def Kb (Bn : Nat) (A B : World) : Prop := B.heap[Bn]? = A.heap[Bn]?
theorem Kb.trans {Bn : Nat} {A B C : World} (h : Kb Bn A B) (k : Kb Bn B C) : Kb Bn A C := Eq.trans k h
theorem Kb.below {Bn : Nat} {w wr w1 : World} {f : Nat → Value} (hr : w.rowIs Bn 40 4 f) (h : Kb Bn w wr) (hb : Below wr.heap.size wr w1) : Kb Bn w w1 :=
  h.trans (hb.block _ (hr.of_block h).lt)

set_option maxHeartbeats 1000000 in
theorem spans1_in (n : Nat) (hn : 1 ≤ n) (l Bn : Nat) (B : Nat → Bool) (J Jx : List (Nat × Nat) → World → Prop) (w : World) (hJ : AbidesFrom w.heap.size J)
    (hY : ∀ pre x W, J pre W → pre.length < 256 → YieldAt Fence.wide (n - 1) Tryd.prog l (encRun x) W fun e W' =>
      (e = .returned (.bool true) ∧ J (pre ++ [x]) W' ∧ Kb Bn W W') ∨ (e = .returned (.bool false) ∧ Jx (pre ++ [x]) W'))
    (hbox : w.rowIs Bn 40 4 (wc B)) (h0 : J [] w) :
    CallsIn Fence.wide n Tryd.prog 51 #[.func (.yield l) #[] #[], .pointer (some ⟨Bn, 0, none⟩)] w fun e W' => (∃ v, e = .returned v) ∧
      ((∃ ys, ys = runs B 256 ∧ J ys W') ∨ (∃ pre, True ∧ Jx pre W')) := by
  refine callsIn_of_wp Tryd.func51 rfl trivial ?_ rfl
  simp only [Tryd.ntmps51, List.size_toArray, List.length_cons, List.length_nil, Nat.reduceAdd, Nat.reduceSub, Array.replicate_succ, Array.replicate_zero, List.push_toArray, List.append_toArray, List.nil_append, List.cons_append]
  gi_wp2
  gi_loopw [3] (fun t wr => ∃ lo : Nat, t = .int .i64 lo ∧ lo ≤ 256 ∧ Hid (lo < 256 → B lo = true → ∀ p, p ∈ runs B lo → p.2 + 1 ≠ lo) ∧ J (runs B lo) wr ∧ Kb Bn w wr)
    (fun t _ => 256 - (intOf t).toNat)
  case atStart =>
    exact ⟨0, rfl, by omega, fun _ _ p hp => by simp [runs] at hp, h0, rfl⟩
  case round =>
    obtain ⟨lo, rfl, hlo, HN, hJs, hB⟩ := hrel
    by_cases hlt : lo < 256
    · have hltz : (lo : Int) ≤ 255 := by omega
      obtain ⟨e0, e1, e2, e3⟩ := bits_cells (hbox.of_block hB)
      have hls := runs_len B lo
      by_cases hBlo : B lo = true
      · have HBlo : Hid (B lo = true) := hBlo
        clear hBlo
        gi_wp2_with fail
        refine ⟨trivial, (callsIn_wide.2 (hasBit_any B lo hlt wr)).mono ?_⟩
        rw [HBlo.out]
        rintro e w1 ⟨rfl, hb1⟩
        have hJ1 := hJ _ _ _ none hJs (below_grownB hb1) (fun r e => by cases e)
        have hB1 := Kb.below hbox hB hb1
        have hstart : runs B (lo + 1) = runs B lo ++ [(lo, lo)] := runs_new HBlo.out (HN.out hlt HBlo.out)
        have HS : Hid (runs B (lo + 1) = runs B lo ++ [(lo, lo)]) := hstart
        clear hstart
        gi_wp2_with fail
        gi_loopw [4] (fun t wr => ∃ hi : Nat, t = .int .i64 hi ∧ lo ≤ hi ∧ hi ≤ 255 ∧ Hid (runs B (hi + 1) = runs B lo ++ [(lo, hi)]) ∧ J (runs B lo) wr ∧ Kb Bn w wr) (fun t _ => 255 - (intOf t).toNat)
        case atStart => exact ⟨lo, rfl, Nat.le_refl _, by omega, HS.out, hJ1, hB1⟩
        case round =>
          obtain ⟨hi, rfl, hlh, hh, HR, hJ2, hB2⟩ := hrel
          obtain ⟨e0, e1, e2, e3⟩ := bits_cells (hbox.of_block hB2)
          by_cases hh5 : hi < 255
          · have hh5z : (hi : Int) < 255 := by omega
            have hhas := hasBit_any B (hi + 1) (by omega) wr
            rw [show ((hi + 1 : Nat) : Int) = (hi : Int) + 1 from by omega] at hhas
            have HH : Hid (Calls Tryd.prog 52 #[.agg #[wc B 0, wc B 1, wc B 2, wc B 3], .int .i64 ((hi : Int) + 1)] wr fun e w' => e = .returned (.bool (B (hi + 1))) ∧ Below wr.heap.size wr w') := hhas
            clear hhas
            gi_wp2_with fail
            refine ⟨trivial, (callsIn_wide.2 HH.out).mono ?_⟩
            clear HH
            by_cases hnx : B (hi + 1) = true
            · have HNX : Hid (B (hi + 1) = true) := hnx
              rw [hnx]
              clear hnx
              rintro e w2 ⟨rfl, hb2⟩
              have hJ3 := hJ _ _ _ none hJ2 (below_grownB hb2) (fun r e => by cases e)
              have hB3 := Kb.below hbox hB2 hb2
              gi_wp2
              go_roundw
              case rel => exact ⟨hi + 1, by go_num, by omega, by omega, runs_ext HNX.out HR.out rfl, hJ3, hB3⟩
              case measure => simp [intOf]; omega
            · have HNX : Hid (B (hi + 1) = false) := Bool.eq_false_iff.2 hnx
              rw [HNX.out]
              clear hnx
              rintro e w2 ⟨rfl, hb2⟩
              have hJ3 := hJ _ _ _ none hJ2 (below_grownB hb2) (fun r e => by cases e)
              have hB3 := Kb.below hbox hB2 hb2
              have hls2 : (runs B lo).length < 256 := by omega
              obtain ⟨fn, tmps, assign, body, hy, hRd⟩ := hY (runs B lo) (lo, hi) w2 hJ3 hls2
              dsimp only [encRun] at hy
              gi_wp2
              refine hRd.mono ?_
              rintro e W3 (⟨rfl, hJ3, hk3⟩ | ⟨rfl, hJx3⟩)
              · gi_wp2
                go_roundw
                case rel => exact ⟨hi + 1, by go_num, by omega, fun _ h => absurd h (by rw [HNX.out]; decide), by rw [HR.out]; exact hJ3, hB3.trans hk3⟩
                case measure => simp [intOf]; omega
              · gi_wp2
                refine bodyPost_ret (results_none rfl _ _ _) rfl ?_
                exact ⟨⟨_, rfl⟩, .inr ⟨_, trivial, hJx3⟩⟩
          · have hh5d : decide ((hi : Int) < 255) = false := by simp; omega
            gi_wp2_with fail
            refine ⟨trivial, ?_⟩
            obtain ⟨fn, tmps, assign, body, hy, hRd⟩ := hY (runs B lo) (lo, hi) wr hJ2 (by omega)
            dsimp only [encRun] at hy
            gi_wp2
            refine hRd.mono ?_
            rintro e W3 (⟨rfl, hJ3, hk3⟩ | ⟨rfl, hJx3⟩)
            · gi_wp2
              go_roundw
              case rel => exact ⟨hi + 1, by go_num, by omega, fun h => absurd h (by omega), by rw [HR.out]; exact hJ3, hB2.trans hk3⟩
              case measure => simp [intOf]; omega
            · gi_wp2
              refine bodyPost_ret (results_none rfl _ _ _) rfl ?_
              exact ⟨⟨_, rfl⟩, .inr ⟨_, trivial, hJx3⟩⟩
      · have HBlo : Hid (B lo = false) := Bool.eq_false_iff.2 hBlo
        clear hBlo
        gi_wp2_with fail
        refine ⟨trivial, (callsIn_wide.2 (hasBit_any B lo hlt wr)).mono ?_⟩
        rw [HBlo.out]
        rintro e w1 ⟨rfl, hb1⟩
        have hJ1 := hJ _ _ _ none hJs (below_grownB hb1) (fun r e => by cases e)
        gi_wp2
        go_roundw
        case rel => exact ⟨lo + 1, by go_num, by omega, fun _ _ p hp => by rw [runs_no HBlo.out] at hp; have := runs_lt B lo p hp; omega, by rw [runs_no HBlo.out]; exact hJ1, Kb.below hbox hB hb1⟩
        case measure => simp [intOf]; omega
    · gi_wp2
      go_end0
      obtain rfl : lo = 256 := by omega
      exact ⟨⟨_, rfl⟩, .inl ⟨_, rfl, hJs⟩⟩
end Go.Proofs.YtjpmdbaalhieoaaDoor

