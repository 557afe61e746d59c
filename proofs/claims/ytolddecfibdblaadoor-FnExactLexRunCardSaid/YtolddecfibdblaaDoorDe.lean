/- The runs of a set of bytes, and the walk of l1Of (carried from P1's texts). -/
import Derived.Test.YtolddecfibdblaaDoorTe
import Derived.Deep.LoopGhost
import Derived.Deep.Cut
import Derived.Deep.RegionHeld
import Derived.Maps.AppendAt
import Derived.Laws.BitsAllLaws
import Derived.Deep.AppendLies
import Derived.Laws.OwnMore
namespace Go.Proofs.YtolddecfibdblaaDoor
open Go.RowKit
set_option linter.unusedVariables false
set_option linter.unusedSimpArgs false

/-- one byte more, k: the last run goes on, or a new one begins -/
def ext (l : List (Nat × Nat)) (k : Nat) : List (Nat × Nat) :=
  match l.getLast? with
  | some p => if p.2 + 1 = k then l.dropLast ++ [(p.1, k)] else l ++ [(k, k)]
  | none => [(k, k)]

/-- the runs of the bytes below k -/
def runs (B : Nat → Bool) : Nat → List (Nat × Nat)
  | 0 => []
  | k + 1 => if B k then ext (runs B k) k else runs B k

theorem runs_no {B : Nat → Bool} {k : Nat} (h : B k = false) : runs B (k + 1) = runs B k := by simp [runs, h]
theorem runs_ext {B : Nat → Bool} {k a b : Nat} {q : List (Nat × Nat)} (h : B k = true) (hr : runs B k = q ++ [(a, b)]) (hb : b + 1 = k) : runs B (k + 1) = q ++ [(a, k)] := by
  simp [runs, h, ext, hr, hb]
theorem runs_new' {B : Nat → Bool} {k : Nat} (h : B k = true) (hl : ∀ p, p ∈ (runs B k).getLast? → p.2 + 1 ≠ k) : runs B (k + 1) = runs B k ++ [(k, k)] := by
  rw [runs, if_pos h, ext]
  cases e : (runs B k).getLast? with
  | none =>
    rw [List.getLast?_eq_none_iff] at e
    simp [e]
  | some p => simp [hl p (by rw [e]; exact rfl)]

theorem runs_len (B : Nat → Bool) (k : Nat) : (runs B k).length ≤ k := by
  induction k with
  | zero => simp [runs]
  | succ k ih =>
    rw [runs]
    split
    · unfold ext
      split
      · split
        · simp; omega
        · simp; omega
      · simp
    · omega

/-- the cells of runs -/
def cellsR (R : List (Nat × Nat)) : List Value := R.flatMap fun p => [.int .i64 (p.1 : Int), .int .i64 (p.2 : Int)]
theorem cellsR_snoc (R : List (Nat × Nat)) (x : Nat × Nat) : cellsR (R ++ [x]) = cellsR R ++ [.int .i64 (x.1 : Int), .int .i64 (x.2 : Int)] := by simp [cellsR]
theorem cell_two_new2 (w : World) (x y : Value) (t : TypeId) : ∀ j u, [x, y][j]? = some u → (w.alloc (.cells #[x, y] t)).cell? ((⟨w.heap.size, 0, none⟩ : Addr).add j) = some u := by
  intro j u hj
  match j, hj with
  | 0, hj => simp at hj; subst hj; simp [Addr.add]
  | 1, hj => simp at hj; subst hj; simp [Addr.add]

theorem cellsR_length (R : List (Nat × Nat)) : (cellsR R).length = R.length * 2 := by
  induction R with
  | nil => rfl
  | cons p R ih => simp [cellsR] at ih ⊢; omega
theorem cellsR_append (R S : List (Nat × Nat)) : cellsR (R ++ S) = cellsR R ++ cellsR S := by simp [cellsR]
theorem cellsR_last (q : List (Nat × Nat)) (a b : Nat) : (cellsR (q ++ [(a, b)]))[q.length * 2 + 1]? = some (.int .i64 (b : Int)) := by
  rw [cellsR_append, List.getElem?_append_right (by rw [cellsR_length]; omega), cellsR_length]
  simp [cellsR, show q.length * 2 + 1 - q.length * 2 = 1 by omega]
theorem cellsR_set (q : List (Nat × Nat)) (a b k : Nat) : (cellsR (q ++ [(a, b)])).set (q.length * 2 + 1) (.int .i64 (k : Int)) = cellsR (q ++ [(a, k)]) := by
  rw [cellsR_append, List.set_append_right _ _ (by rw [cellsR_length]; omega), cellsR_length, cellsR_append]
  simp [cellsR, show q.length * 2 + 1 - q.length * 2 = 1 by omega]

set_option maxRecDepth 100000 in
set_option maxHeartbeats 1000000 in
theorem l1Of_n (N : Nat) (HN : Hid (N = 256)) (bi ci : Nat) (B : Nat → Bool) (w : World) (hin : w.rowIs bi 4 256 (fun i => .bool (B i))) :
    Calls Tryd.prog 71 #[.slice (some ⟨bi, 0, none⟩) 256 ci] w fun e w' => ∃ v, e = .returned v ∧ w'.ownsRow w.heap.size 87 2 v (runs B N).length (cellsR (runs B N)) ∧ Below w.heap.size w w' := by
  obtain ⟨i0, hi, hz0, hz1, hz2⟩ := info_parts Tryd.info87
  go_enter Tryd.func71, Tryd.ntmps71
  go_wp2
  go_loopw [3, 4] (fun t i wr => ∃ (k g cap n : Nat), k ≤ 256 ∧ i = .int .i64 k ∧ t = .slice (some ⟨g, 0, none⟩) n cap ∧ n ≤ k ∧ Hid (n = (runs B k).length) ∧ wr.ownsRow w.heap.size 87 2 (.slice (some ⟨g, 0, none⟩) n cap) n (cellsR (runs B k)) ∧ Below w.heap.size w wr)
    (fun _ i _ => 256 - (intOf i).toNat)
  case atStart =>
    refine ⟨0, w.heap.size, 0, 0, by omega, rfl, rfl, by omega, rfl, ?_, (Below.refl _ _).alloc (Nat.le_refl _) _⟩
    exact World.ownsRow_lit w #[] 0 (Nat.le_refl _) (by unfold maxLen; omega) rfl
  case round =>
    obtain ⟨k, g, cap, n, hk, rfl, rfl, hnk, HNL, hown, hB⟩ := hrel
    have hgb := (hown.lt g rfl).1
    by_cases hlt : k < 256
    · have hltz : (k : Int) < 256 := by omega
      have hcell : wr.cell? ⟨bi, k, none⟩ = some (.bool (B k)) := (hin.of_block (hB.block _ hin.lt)).cell hlt
      by_cases hBk : B k = true
      · rw [hBk] at hcell
        have HBk : Hid (B k = true) := hBk
        clear hBk
        by_cases hold : ∃ (q : List (Nat × Nat)) (a b : Nat), runs B k = q ++ [(a, b)] ∧ b + 1 = k
        · obtain ⟨q, a, b, hq, hb⟩ := hold
          have hl : n = q.length + 1 := by rw [HNL.out, hq]; simp
          have hc1 : wr.cell? ⟨g, q.length * 2 + 1, none⟩ = some (.int .i64 (b : Int)) := by
            rw [hown.cellAt _ (by omega), hq]; exact cellsR_last q a b
          have hf1 := hown.frozenAt (q.length * 2 + 1)
          have hst := (hown.stored (q.length * 2 + 1) (.int .i64 (k : Int))).1
          rw [hq, cellsR_set] at hst
          have HST : Hid ((wr.setCell ⟨g, q.length * 2 + 1, none⟩ (.int .i64 (k : Int))).ownsRow w.heap.size 87 2 (.slice (some ⟨g, 0, none⟩) n cap) n (cellsR (q ++ [(a, k)]))) := hst
          have HQ : Hid (runs B (k + 1) = q ++ [(a, k)]) := runs_ext HBk.out hq hb
          clear hst hq hown HNL
          subst hl
          have hb' : ((b : Int) == (k : Int) - 1) = true := by simp; omega
          have hpos : (0 : Int) < ((q.length + 1 : Nat) : Int) := by omega
          go_wp2
          go_roundw
          case rel => exact ⟨k + 1, g, cap, q.length + 1, by omega, by go_num, rfl, by omega, by rw [HQ.out]; simp [Hid], by rw [HQ.out]; exact HST.out, hB.setCell hgb _⟩
          case measure => simp [intOf]; omega
        · have hne : ∀ p, p ∈ (runs B k).getLast? → p.2 + 1 ≠ k := fun p hp e => by
            obtain ⟨ys, hys⟩ := List.getLast?_eq_some_iff.1 hp
            exact hold ⟨ys, p.1, p.2, hys, e⟩
          have HQ : Hid (runs B (k + 1) = runs B k ++ [(k, k)]) := runs_new' HBk.out hne
          by_cases hn0 : n = 0
          · subst hn0
            have hd : decide ((0 : Int) < ((0 : Nat) : Int)) = false := by simp
            go_wp2_with (at_builtin; refine wpList_append_own _ rfl _ _ 72 rfl w.heap.size 87 i0 (.agg #[.int .i64 0, .int .i64 0]) 2 16 Tryd.underlying72 hi hz0 hz1 hz2 rfl (by decide) _ _ _ rfl (hown.alloc _) ⟨wr.heap.size, 0, none⟩ 1 1 [.int .i64 (k : Int), .int .i64 (k : Int)] rfl rfl (cell_two_new2 _ _ _ _) (by simp [Value.oneCell']) (by unfold maxLen; omega) (by omega) (by have := hB.size; simp; omega) ?_; intro v' w1 hown' hgrow _; obtain ⟨g', cap', rfl⟩ := ownsRow_succ hown')
            have hB1 : Below w.heap.size w w1 := (hB.alloc hB.size _).grown hgrow (by have := hB.size; simp; omega) (fun j e => by cases e; exact hgb)
            go_roundw
            case rel => exact ⟨k + 1, g', cap', 0 + 1, by omega, by go_num, rfl, by omega, by rw [HQ.out]; simp [Hid, ← HNL.out], by rw [HQ.out, cellsR_snoc]; exact hown', hB1⟩
            case measure => simp [intOf]; omega
          · have hex : ∃ (q : List (Nat × Nat)) (a b : Nat), runs B k = q ++ [(a, b)] := by
              rcases List.eq_nil_or_concat (runs B k) with h | ⟨q, ⟨a, b⟩, h⟩
              · exact absurd (by rw [HNL.out, h]; rfl) hn0
              · exact ⟨q, a, b, by simpa using h⟩
            obtain ⟨q, a, b, hq⟩ := hex
            have hbk : b + 1 ≠ k := fun e => hold ⟨q, a, b, hq, e⟩
            have hl : n = q.length + 1 := by rw [HNL.out, hq]; simp
            have hc1 : wr.cell? ⟨g, q.length * 2 + 1, none⟩ = some (.int .i64 (b : Int)) := by
              rw [hown.cellAt _ (by omega), hq]; exact cellsR_last q a b
            clear hq hne hold hn0
            subst hl
            have hb' : ((b : Int) == (k : Int) - 1) = false := by simp; omega
            have hpos : (0 : Int) < ((q.length + 1 : Nat) : Int) := by omega
            go_wp2_with (at_builtin; refine wpList_append_own _ rfl _ _ 72 rfl w.heap.size 87 i0 (.agg #[.int .i64 0, .int .i64 0]) 2 16 Tryd.underlying72 hi hz0 hz1 hz2 rfl (by decide) _ _ _ rfl (hown.alloc _) ⟨wr.heap.size, 0, none⟩ 1 1 [.int .i64 (k : Int), .int .i64 (k : Int)] rfl rfl (cell_two_new2 _ _ _ _) (by simp [Value.oneCell']) (by unfold maxLen; omega) (by omega) (by have := hB.size; simp; omega) ?_; intro v' w1 hown' hgrow _; obtain ⟨g', cap', rfl⟩ := ownsRow_succ hown')
            have hB1 : Below w.heap.size w w1 := (hB.alloc hB.size _).grown hgrow (by have := hB.size; simp; omega) (fun j e => by cases e; exact hgb)
            go_roundw
            case rel => exact ⟨k + 1, g', cap', (q.length + 1) + 1, by omega, by go_num, rfl, by omega, by rw [HQ.out]; simp [Hid, ← HNL.out], by rw [HQ.out, cellsR_snoc]; exact hown', hB1⟩
            case measure => simp [intOf]; omega
      · have HBk : Hid (B k = false) := Bool.eq_false_iff.2 hBk
        rw [HBk.out] at hcell
        clear hBk
        go_wp2
        go_roundw
        case rel => exact ⟨k + 1, g, cap, n, by omega, by go_num, rfl, by omega, by rw [runs_no HBk.out]; exact HNL, by rw [runs_no HBk.out]; exact hown, hB⟩
        case measure => simp [intOf]; omega
    · go_wp2
      go_ret
      refine ⟨.slice (some ⟨g, 0, none⟩) n cap, rfl, ?_, hB⟩
      have e : k = N := by have := HN.out; omega
      rw [e] at hown
      rw [← e, ← HNL.out, e]
      exact hown

theorem l1Of_any (bi ci : Nat) (B : Nat → Bool) (w : World) (hin : w.rowIs bi 4 256 (fun i => .bool (B i))) :
    Calls Tryd.prog 71 #[.slice (some ⟨bi, 0, none⟩) 256 ci] w fun e w' => ∃ v, e = .returned v ∧ w'.ownsRow w.heap.size 87 2 v (runs B 256).length (cellsR (runs B 256)) ∧ Below w.heap.size w w' :=
  l1Of_n 256 rfl bi ci B w hin

end Go.Proofs.YtolddecfibdblaaDoor

