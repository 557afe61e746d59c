/- the marks of tokens -/
import Derived.Test.YtplpdikkkbiacaaGreatDoorWc
import Derived.RangeFuncBox
import Derived.OwnWalk
import Derived.Test.YtplpdikkkbiacaaGreatDoorXb
namespace Go.Proofs.YtplpdikkkbiacaaGreatDoor
open Go.RowKit
set_option linter.unusedVariables false
set_option linter.unusedSimpArgs false

/-- m numbers from k on -/
def markL (k : Int) (m : Nat) : List Value := (List.range m).map fun (j : Nat) => Value.int .i64 (k + (j : Int))
theorem markL_length (k : Int) (m : Nat) : (markL k m).length = m := by simp [markL]
theorem markL_get (k : Int) (m j : Nat) (h : j < m) : (markL k m)[j]? = some (.int .i64 (k + (j : Int))) := by simp [markL, h]
theorem markL_set (k : Int) (xs : List Value) (m : Nat) (h : m < xs.length) : (markL k m ++ xs.drop m).set m (.int .i64 (k + (m : Int))) = markL k (m + 1) ++ xs.drop (m + 1) := by
  rw [List.set_append_right _ _ (by rw [markL_length]; omega), markL_length, Nat.sub_self]
  have e : xs.drop m = xs[m] :: xs.drop (m + 1) := List.drop_eq_getElem_cons h
  rw [e, List.set_cons_zero]
  simp [markL, List.range_succ]

theorem grown_trans {a b c : World} {r : Option Nat} (h : a.grownBy b r) (k : b.grownBy c r) : a.grownBy c r :=
  ⟨k.os.trans h.os, k.tape.trans h.tape, k.output.trans h.output, Nat.le_trans h.size k.size, fun j hj hr => (k.block j (Nat.lt_of_lt_of_le hj h.size) hr).trans (h.block j hj hr)⟩

end Go.Proofs.YtplpdikkkbiacaaGreatDoor
namespace Go.Proofs.YtplpdikkkbiacaaGreatDoor
open Go.RowKit
set_option linter.unusedVariables false
set_option linter.unusedSimpArgs false

set_option maxHeartbeats 1000000 in
theorem markT_row (base g n cap : Nat) (xs : List Value) (k0 : Int) (w : World) (hown : w.ownsRow base 46 3 (.slice (some ⟨g, 0, none⟩) n cap) n xs) (hk0 : 0 ≤ k0) (hk1 : k0 ≤ 100000000) (hn : n ≤ 4194304) :
    Calls Tryz.prog 11 #[.slice (some ⟨g, 0, none⟩) n cap, .int .i64 k0] w fun e w' => e = .returned (.int .i64 (k0 + 3 * n)) ∧ w'.ownsRow base 46 3 (.slice (some ⟨g, 0, none⟩) n cap) n (markL k0 (n * 3)) ∧ w.grownBy w' (some g) := by
  have hxl := hown.1
  go_enter Tryz.func11, Tryz.ntmps11
  go_wp2
  go_loopw [1, 5] (fun t i wr => ∃ k : Nat, k ≤ n ∧ i = .int .i64 k ∧ t = .int .i64 (k0 + 3 * k) ∧ wr.ownsRow base 46 3 (.slice (some ⟨g, 0, none⟩) n cap) n (markL k0 (k * 3) ++ xs.drop (k * 3)) ∧ w.grownBy wr (some g)) (fun _ i _ => n - (intOf i).toNat)
  case atStart => exact ⟨0, by omega, rfl, by simp, by simpa [markL] using hown, World.grownBy.refl _ _⟩
  case round =>
    obtain ⟨k, hk, rfl, rfl, ho, hg⟩ := hrel
    by_cases hlt : k < n
    · have hltz : (k : Int) < (n : Int) := by omega
      have hl : (markL k0 (k * 3) ++ xs.drop (k * 3)).length = n * 3 := ho.1
      obtain ⟨v0, c0⟩ : ∃ v0, wr.cell? ⟨g, k * 3, none⟩ = some v0 := by
        rw [ho.cellAt _ (by omega)]; exact ⟨_, List.getElem?_eq_getElem (by omega)⟩
      have f0 := ho.frozenAt (k * 3)
      obtain ⟨o1, g1⟩ := ho.stored (k * 3) (.int .i64 (k0 + 3 * (k : Int)))
      obtain ⟨v1, c1⟩ : ∃ v1, (wr.setCell ⟨g, k * 3, none⟩ (.int .i64 (k0 + 3 * (k : Int)))).cell? ⟨g, k * 3 + 1, none⟩ = some v1 := by
        rw [o1.cellAt _ (by omega)]; exact ⟨_, List.getElem?_eq_getElem (by simp at hl ⊢; omega)⟩
      have f1 := o1.frozenAt (k * 3 + 1)
      obtain ⟨o2, g2⟩ := o1.stored (k * 3 + 1) (.int .i64 (k0 + 3 * (k : Int) + 1))
      obtain ⟨v2, c2⟩ : ∃ v2, ((wr.setCell ⟨g, k * 3, none⟩ (.int .i64 (k0 + 3 * (k : Int)))).setCell ⟨g, k * 3 + 1, none⟩ (.int .i64 (k0 + 3 * (k : Int) + 1))).cell? ⟨g, k * 3 + 2, none⟩ = some v2 := by
        rw [o2.cellAt _ (by omega)]; exact ⟨_, List.getElem?_eq_getElem (by simp at hl ⊢; omega)⟩
      have f2 := o2.frozenAt (k * 3 + 2)
      obtain ⟨o3, g3⟩ := o2.stored (k * 3 + 2) (.int .i64 (k0 + 3 * (k : Int) + 1 + 1))
      have O3 : Hid ((((wr.setCell ⟨g, k * 3, none⟩ (.int .i64 (k0 + 3 * (k : Int)))).setCell ⟨g, k * 3 + 1, none⟩ (.int .i64 (k0 + 3 * (k : Int) + 1))).setCell ⟨g, k * 3 + 2, none⟩ (.int .i64 (k0 + 3 * (k : Int) + 1 + 1))).ownsRow base 46 3 (.slice (some ⟨g, 0, none⟩) n cap) n (markL k0 ((k + 1) * 3) ++ xs.drop ((k + 1) * 3))) := by
        have e1 := markL_set k0 xs (k * 3) (by omega)
        have e2 := markL_set k0 xs (k * 3 + 1) (by omega)
        have e3 := markL_set k0 xs (k * 3 + 2) (by omega)
        rw [show k0 + ((k * 3 : Nat) : Int) = k0 + 3 * (k : Int) by omega] at e1
        rw [show k0 + ((k * 3 + 1 : Nat) : Int) = k0 + 3 * (k : Int) + 1 by omega] at e2
        rw [show k0 + ((k * 3 + 2 : Nat) : Int) = k0 + 3 * (k : Int) + 1 + 1 by omega] at e3
        rw [e1, e2, e3, show k * 3 + 2 + 1 = (k + 1) * 3 by omega] at o3
        exact o3
      have G3 : Hid (w.grownBy (((wr.setCell ⟨g, k * 3, none⟩ (.int .i64 (k0 + 3 * (k : Int)))).setCell ⟨g, k * 3 + 1, none⟩ (.int .i64 (k0 + 3 * (k : Int) + 1))).setCell ⟨g, k * 3 + 2, none⟩ (.int .i64 (k0 + 3 * (k : Int) + 1 + 1))) (some g)) := grown_trans hg (grown_trans g1 (grown_trans g2 g3))
      clear o1 g1 o2 g2 o3 g3 ho hg
      go_wp2
      go_roundw
      case rel => exact ⟨k + 1, by omega, by go_num, by go_num, O3.out, G3.out⟩
      case measure => simp [intOf]; omega
    · go_wp2
      go_ret
      obtain rfl : k = n := by omega
      rw [List.drop_of_length_le (by omega), List.append_nil] at ho
      exact ⟨rfl, ho, hg⟩

set_option maxHeartbeats 1000000 in
theorem markT_nil (k0 : Int) (w : World) : Calls Tryz.prog 11 #[.slice none 0 0, .int .i64 k0] w fun e w' => e = .returned (.int .i64 k0) ∧ w' = w := by
  go_enter Tryz.func11, Tryz.ntmps11
  go_wp2
  go_loop [1, 5] (fun t i => t = .int .i64 k0 ∧ i = .int .i64 0) (fun _ _ => 0)
  case atStart => exact ⟨rfl, rfl⟩
  case round =>
    obtain ⟨rfl, rfl⟩ := hrel
    go_wp2
    go_ret
    exact ⟨rfl, rfl⟩
theorem markT_any (base n : Nat) (v : Value) (xs : List Value) (k0 : Int) (w : World) (hown : w.ownsRow base 46 3 v n xs) (hk0 : 0 ≤ k0) (hk1 : k0 ≤ 100000000) (hn : n ≤ 4194304) :
    Calls Tryz.prog 11 #[v, .int .i64 k0] w fun e w' => e = .returned (.int .i64 (k0 + 3 * n)) ∧ w'.ownsRow base 46 3 v n (markL k0 (n * 3)) ∧ w.grownBy w' v.ownBlock := by
  have h2 := hown.2
  rcases h2 with ⟨rfl, rfl⟩ | ⟨g, cap, cur, rfl, _⟩
  · refine (markT_nil k0 w).mono ?_
    rintro e w' ⟨rfl, rfl⟩
    exact ⟨by simp, World.ownsRow_nil _ _ _ _, World.grownBy.refl _ _⟩
  · exact markT_row base g n cap xs k0 w hown hk0 hk1 hn

set_option maxHeartbeats 1000000 in
theorem heldT_row (base g n cap : Nat) (k0 : Int) (w : World) (hown : w.ownsRow base 46 3 (.slice (some ⟨g, 0, none⟩) n cap) n (markL k0 (n * 3))) (hk0 : 0 ≤ k0) (hk1 : k0 ≤ 100000000) (hn : n ≤ 4194304) :
    Calls Tryz.prog 12 #[.slice (some ⟨g, 0, none⟩) n cap, .int .i64 k0] w fun e w' => e = .returned (.int .i64 (k0 + 3 * n)) ∧ w' = w := by
  go_enter Tryz.func12, Tryz.ntmps12
  go_wp2
  go_loop [1, 5] (fun t i => ∃ k : Nat, k ≤ n ∧ i = .int .i64 k ∧ t = .int .i64 (k0 + 3 * k)) (fun _ i => n - (intOf i).toNat)
  case atStart => exact ⟨0, by omega, rfl, by simp⟩
  case round =>
    obtain ⟨k, hk, rfl, rfl⟩ := hrel
    by_cases hlt : k < n
    · have hltz : (k : Int) < (n : Int) := by omega
      have c0 : w.cell? ⟨g, k * 3, none⟩ = some (.int .i64 (k0 + 3 * (k : Int))) := by
        rw [hown.cellAt _ (by omega), markL_get _ _ _ (by omega), show k0 + ((k * 3 : Nat) : Int) = k0 + 3 * (k : Int) by omega]
      have c1 : w.cell? ⟨g, k * 3 + 1, none⟩ = some (.int .i64 (k0 + 3 * (k : Int) + 1)) := by
        rw [hown.cellAt _ (by omega), markL_get _ _ _ (by omega), show k0 + ((k * 3 + 1 : Nat) : Int) = k0 + 3 * (k : Int) + 1 by omega]
      have c2 : w.cell? ⟨g, k * 3 + 2, none⟩ = some (.int .i64 (k0 + 3 * (k : Int) + 1 + 1)) := by
        rw [hown.cellAt _ (by omega), markL_get _ _ _ (by omega), show k0 + ((k * 3 + 2 : Nat) : Int) = k0 + 3 * (k : Int) + 1 + 1 by omega]
      go_wp2
      go_round
      case rel => exact ⟨k + 1, by omega, by go_num, by go_num⟩
      case measure => simp [intOf]; omega
    · go_wp2
      go_ret
      obtain rfl : k = n := by omega
      exact ⟨rfl, rfl⟩
set_option maxHeartbeats 1000000 in
theorem heldT_nil (k0 : Int) (w : World) : Calls Tryz.prog 12 #[.slice none 0 0, .int .i64 k0] w fun e w' => e = .returned (.int .i64 k0) ∧ w' = w := by
  go_enter Tryz.func12, Tryz.ntmps12
  go_wp2
  go_loop [1, 5] (fun t i => t = .int .i64 k0 ∧ i = .int .i64 0) (fun _ _ => 0)
  case atStart => exact ⟨rfl, rfl⟩
  case round =>
    obtain ⟨rfl, rfl⟩ := hrel
    go_wp2
    go_ret
    exact ⟨rfl, rfl⟩
theorem heldT_any (base n : Nat) (v : Value) (k0 : Int) (w : World) (hown : w.ownsRow base 46 3 v n (markL k0 (n * 3))) (hk0 : 0 ≤ k0) (hk1 : k0 ≤ 100000000) (hn : n ≤ 4194304) :
    Calls Tryz.prog 12 #[v, .int .i64 k0] w fun e w' => e = .returned (.int .i64 (k0 + 3 * n)) ∧ w' = w := by
  have h2 := hown.2
  rcases h2 with ⟨rfl, rfl⟩ | ⟨g, cap, cur, rfl, _⟩
  · refine (heldT_nil k0 w).mono ?_
    rintro e w' ⟨rfl, rfl⟩
    exact ⟨by simp, rfl⟩
  · exact heldT_row base g n cap k0 w hown hk0 hk1 hn
/-- two lists of the same tokens -/
theorem eqT_any {base base' : Nat} {v v' : Value} {L : List Tk} (w : World) (h : w.ownsRow base 46 3 v L.length (cellsT L)) (h' : w.ownsRow base' 46 3 v' L.length (cellsT L)) (hl : L.length ≤ 4194304) :
    Calls Tryz.prog 8 #[v, v'] w fun e w' => e = .returned (.bool true) ∧ Below w.heap.size w w' := by
  have sh : ∀ {base : Nat} {v : Value}, w.ownsRow base 46 3 v L.length (cellsT L) → ∃ a g cap, v = .slice a L.length cap ∧ (0 < L.length → a = some ⟨g, 0, none⟩) ∧ TkIn w g 0 L.length (atT L) := fun {base v} h => by
    rcases h.2 with ⟨rfl, e0⟩ | ⟨g, cap, cur, rfl, _⟩
    · exact ⟨none, 0, 0, by rw [e0], fun hh => by omega, fun i hi => by omega⟩
    · exact ⟨_, g, cap, rfl, fun _ => rfl, own_tk h⟩
  obtain ⟨a, g, cap, rfl, hga, hin⟩ := sh h
  obtain ⟨a', g', cap', rfl, hga', hin'⟩ := sh h'
  have hh := eqTokS_any a a' g 0 cap L.length g' 0 cap' L.length (atT L) (atT L) w hga hin hga' hin' hl hl
  rwa [eqTB_all (fun _ _ => rfl)] at hh
end Go.Proofs.YtplpdikkkbiacaaGreatDoor

