/- the walks of markSpanSS and heldSpanSS -/
import Derived.Test.YtjpmdbaalhieoaaDoorYa
import Derived.Test.YtjpmdbaalhieoaaDoorWm
namespace Go.Proofs.YtjpmdbaalhieoaaDoor
open Go.RowKit
set_option linter.unusedVariables false
set_option linter.unusedSimpArgs false

/-- n sets of one's own: the outer row's cells in block B, set i is V i and holds X i -/
structure Lst (w : World) (base B n : Nat) (V : Nat → Value) (m : Nat → Nat) (X : Nat → List Value) : Prop where
  cell : ∀ i, i < n → w.cell? ⟨B, i, none⟩ = some (V i)
  row : ∀ i, i < n → w.ownsRow base 33 2 (V i) (m i) (X i)
  out : ∀ i, i < n → (V i).ownBlock ≠ some B
  apart : ∀ i j, i < n → j < n → i ≠ j → (V i).ownBlock = none ∨ (V i).ownBlock ≠ (V j).ownBlock

/-- nothing turned but those sets -/
structure Spares (w w' : World) (n : Nat) (V : Nat → Value) : Prop where
  os : w'.os = w.os
  tape : w'.tape = w.tape
  output : w'.output = w.output
  size : w.heap.size ≤ w'.heap.size
  block : ∀ k, k < w.heap.size → (∀ i, i < n → (V i).ownBlock ≠ some k) → w'.heap[k]? = w.heap[k]?
theorem Spares.refl (w : World) (n : Nat) (V : Nat → Value) : Spares w w n V := ⟨rfl, rfl, rfl, Nat.le_refl _, fun _ _ _ => rfl⟩
theorem Spares.grown {w w1 w2 : World} {n k : Nat} {V : Nat → Value} (h : Spares w w1 n V) (hk : k < n) (g : w1.grownBy w2 (V k).ownBlock) : Spares w w2 n V :=
  ⟨g.os.trans h.os, g.tape.trans h.tape, g.output.trans h.output, Nat.le_trans h.size g.size, fun j hj hr => (g.block j (Nat.lt_of_lt_of_le hj h.size) (fun e => hr k hk e.symm)).trans (h.block j hj hr)⟩
theorem Spares.below {w w' : World} {n base : Nat} {V : Nat → Value} (h : Spares w w' n V) (hb : base ≤ w.heap.size) (hV : ∀ i, i < n → ∀ k, (V i).ownBlock = some k → base ≤ k) : Below base w w' :=
  ⟨h.os, h.tape, h.output, h.size, fun k hk => h.block k (by omega) (fun i hi e => by have := hV i hi k e; omega)⟩

/-- the marks of the first k sets -/
def markX (k0 : Int) (m : Nat → Nat) (X : Nat → List Value) (k : Nat) (i : Nat) : List Value := if i < k then markL (k0 + 2 * (tot m i : Int)) (m i * 2) else X i

/-- what comes of marking -/
def MarkRes (base B n : Nat) (V : Nat → Value) (m : Nat → Nat) (X : Nat → List Value) (k0 : Int) (w : World) (e : Ending) (w' : World) : Prop :=
  e = .returned (.int .i64 (k0 + 2 * (tot m n : Int))) ∧ Lst w' base B n V m (markX k0 m X n) ∧ Spares w w' n V

theorem lst_mark {w w' : World} {base B n k : Nat} {V : Nat → Value} {m : Nat → Nat} {X : Nat → List Value} {k0 : Int} (h : Lst w base B n V m (markX k0 m X k)) (hk : k < n) (hr : w'.ownsRow base 33 2 (V k) (m k) (markL (k0 + 2 * (tot m k : Int)) (m k * 2))) (g : w.grownBy w' (V k).ownBlock) : Lst w' base B n V m (markX k0 m X (k + 1)) := by
  refine ⟨fun i hi => g.cell (h.cell i hi) (fun e => h.out k hk e.symm), fun i hi => ?_, h.out, h.apart⟩
  by_cases e : i = k
  · subst e
    rw [markX, if_pos (by omega)]
    exact hr
  · have h1 := (h.row i hi).kept g (h.apart i k hi hk e)
    unfold markX at h1 ⊢
    by_cases e2 : i < k
    · rw [if_pos e2] at h1; rw [if_pos (by omega)]; exact h1
    · rw [if_neg e2] at h1; rw [if_neg (by omega)]; exact h1

set_option maxHeartbeats 1000000 in
theorem markSS_any (a : Option Addr) (B cap n : Nat) (base : Nat) (V : Nat → Value) (m : Nat → Nat) (X : Nat → List Value) (k0 : Int) (w : World) (hga : 0 < n → a = some ⟨B, 0, none⟩) (hL : Lst w base B n V m X) (hk0 : 0 ≤ k0) (hk1 : k0 ≤ 1000) (hn : n ≤ 4194304) (ht : tot m n ≤ 4194304) :
    Calls Tryd.prog 9 #[.slice a n cap, .int .i64 k0] w (MarkRes base B n V m X k0 w) := by
  have HT : Hid (∀ k, k ≤ n → tot m k ≤ 4194304) := fun k hk => Nat.le_trans (tot_le m hk) ht
  have HM : Hid (∀ k, k < n → m k ≤ 4194304) := fun k hk => Nat.le_trans (tot_at m hk) ht
  go_enter Tryd.func9, Tryd.ntmps9
  go_wp2
  go_loopw [1, 5] (fun t i wr => ∃ k : Nat, k ≤ n ∧ i = .int .i64 k ∧ t = .int .i64 (k0 + 2 * (tot m k : Int)) ∧ Lst wr base B n V m (markX k0 m X k) ∧ Spares w wr n V) (fun _ i _ => n - (intOf i).toNat)
  case atStart => exact ⟨0, Nat.zero_le _, rfl, by simp [tot], by have e : markX k0 m X 0 = X := by (funext i; rw [markX, if_neg (by omega)])
                                                                  rw [e]; exact hL, Spares.refl _ _ _⟩
  case round =>
    obtain ⟨k, hk, rfl, rfl, hl, hS⟩ := hrel
    have htk := HT.out k hk
    by_cases hlt : k < n
    · obtain rfl := hga (by omega)
      have hltz : (k : Int) < (n : Int) := by omega
      have c1 := hl.cell k hlt
      have hrow := hl.row k hlt
      have hmk := HM.out k hlt
      go_wp2_with fail
      refine (mark_any base (m k) (V k) _ (k0 + 2 * (tot m k : Int)) _ hrow (by omega) (by omega) hmk).mono ?_
      rintro e w1 ⟨rfl, hr1, hg1⟩
      have hl1 := lst_mark hl hlt hr1 hg1
      have hS1 := hS.grown hlt hg1
      clear hl hrow c1 hr1 hg1
      go_wp2
      go_roundw
      case rel => exact ⟨k + 1, by omega, by go_num, by simp only [tot]; congr 1; omega, hl1, hS1⟩
      case measure => simp [intOf]; omega
    · have hltz : ¬ ((k : Int) < (n : Int)) := by omega
      obtain rfl : k = n := by omega
      go_wp2
      go_ret
      exact ⟨rfl, hl, hS⟩

set_option maxHeartbeats 1000000 in
theorem heldSS_any (a : Option Addr) (B cap n : Nat) (base : Nat) (V : Nat → Value) (m : Nat → Nat) (X : Nat → List Value) (k0 : Int) (w : World) (hga : 0 < n → a = some ⟨B, 0, none⟩) (hL : Lst w base B n V m (markX k0 m X n)) (hk0 : 0 ≤ k0) (hk1 : k0 ≤ 1000) (hn : n ≤ 4194304) (ht : tot m n ≤ 4194304) :
    Calls Tryd.prog 10 #[.slice a n cap, .int .i64 k0] w fun e w' => e = .returned (.int .i64 (k0 + 2 * (tot m n : Int))) ∧ w' = w := by
  have HT : Hid (∀ k, k ≤ n → tot m k ≤ 4194304) := fun k hk => Nat.le_trans (tot_le m hk) ht
  have HM : Hid (∀ k, k < n → m k ≤ 4194304) := fun k hk => Nat.le_trans (tot_at m hk) ht
  go_enter Tryd.func10, Tryd.ntmps10
  go_wp2
  go_loop [1, 5] (fun t i => ∃ k : Nat, k ≤ n ∧ i = .int .i64 k ∧ t = .int .i64 (k0 + 2 * (tot m k : Int))) (fun _ i => n - (intOf i).toNat)
  case atStart => exact ⟨0, Nat.zero_le _, rfl, by simp [tot]⟩
  case round =>
    obtain ⟨k, hk, rfl, rfl⟩ := hrel
    have htk := HT.out k hk
    by_cases hlt : k < n
    · obtain rfl := hga (by omega)
      have hltz : (k : Int) < (n : Int) := by omega
      have c1 := hL.cell k hlt
      have hrow : w.ownsRow base 33 2 (V k) (m k) (markL (k0 + 2 * (tot m k : Int)) (m k * 2)) := by
        have h := hL.row k hlt
        rwa [markX, if_pos hlt] at h
      have hmk := HM.out k hlt
      have hz : ¬ (k0 + 2 * (tot m k : Int) + 2 * (m k : Int) < 0) := by omega
      go_wp2_with fail
      refine (held_any base (m k) (V k) (k0 + 2 * (tot m k : Int)) _ hrow (by omega) (by omega) hmk).mono ?_
      rintro e w1 ⟨rfl, rfl⟩
      go_wp2
      go_round
      case rel => exact ⟨k + 1, by omega, by go_num, by simp only [tot]; congr 1; omega⟩
      case measure => simp [intOf]; omega
    · have hltz : ¬ ((k : Int) < (n : Int)) := by omega
      obtain rfl : k = n := by omega
      go_wp2
      go_ret
      exact ⟨rfl, rfl⟩
end Go.Proofs.YtjpmdbaalhieoaaDoor

