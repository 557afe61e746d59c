/- the walks of the two SetOk -/
import Derived.Test.YtplpdikkkbiacaaGreatDoorBase
namespace Go.Proofs.YtplpdikkkbiacaaGreatDoor
open Go.RowKit
set_option linter.unusedVariables false
set_option linter.unusedSimpArgs false

set_option maxHeartbeats 400000 in
theorem sz_any (a : Option Addr) (len cap : Nat) (left : Int) (w : World) (h0 : 0 ≤ left) (h1 : left ≤ 1048576) (hl : len ≤ 9223372036854775807) :
    Calls Tryz.prog 39 #[.slice a len cap, .int .i64 left] w fun e w' => e = .returned (.int .i64 (if left < len then -1 else left - len)) ∧ w' = w := by
  by_cases h : left < len
  · rw [if_pos h]
    have h' : left - (len : Int) < 0 := by omega
    go_enter Tryz.func39, Tryz.ntmps39
    go_wp2
    go_ret
    exact ⟨rfl, rfl⟩
  · rw [if_neg h]
    have h' : ¬ left - (len : Int) < 0 := by omega
    go_enter Tryz.func39, Tryz.ntmps39
    go_wp2
    go_ret
    exact ⟨rfl, rfl⟩

set_option maxHeartbeats 400000 in
theorem toSpan_any (x y : Int) (w : World) :
    Calls Tryz.prog 59 #[.agg #[.int .i64 x, .int .i64 y]] w fun e w' => e = .returned (.agg #[.int .i64 x, .int .i64 y]) ∧ Below w.heap.size w w' := by
  go_enter Tryz.func59, Tryz.ntmps59
  go_wp2
  refine bodyPost_ret (v := .agg #[.int .i64 x, .int .i64 y]) (by simp [results, Tryz.results59, go_sem]) rfl ⟨rfl, ?_⟩
  repeat (first | exact Below.refl _ _ | refine Below.alloc ?_ (by simp <;> omega) _)

theorem eqSpan_bool (x y z t : Int) (h1 : (x != z) = false) (h2 : (y != t) = false) : (x == z && y == t) = true := by
  simp at h1 h2; simp [h1, h2]
theorem eqSpan_boolA (x y z t : Int) (h1 : (x != z) = true) : (x == z && y == t) = false := by
  simp at h1; simp [h1]
theorem eqSpan_boolB (x y z t : Int) (h2 : (y != t) = true) : (x == z && y == t) = false := by
  simp at h2; simp [h2]

set_option maxHeartbeats 400000 in
theorem eqSpan_any (x y z t : Int) (w : World) :
    Calls Tryz.prog 72 #[.agg #[.int .i64 x, .int .i64 y], .agg #[.int .i64 z, .int .i64 t]] w fun e w' => e = .returned (.bool (x == z && y == t)) ∧ Below w.heap.size w w' := by
  go_enter Tryz.func72, Tryz.ntmps72
  go_wp2
  · go_ret
    exact ⟨ret_bool (eqSpan_boolA _ _ _ _ ‹_›).symm, by repeat (first | exact Below.refl _ _ | refine Below.alloc ?_ (by simp <;> omega) _)⟩
  · go_ret
    exact ⟨ret_bool (eqSpan_boolB _ _ _ _ ‹_›).symm, by repeat (first | exact Below.refl _ _ | refine Below.alloc ?_ (by simp <;> omega) _)⟩
  · go_ret
    exact ⟨ret_bool (eqSpan_bool _ _ _ _ ‹_› ‹_›).symm, by repeat (first | exact Below.refl _ _ | refine Below.alloc ?_ (by simp <;> omega) _)⟩

theorem Tryz.info76 : (Tryz.prog.info? 76).map (fun i => (i.zero, i.size, i.bytes)) = some (some (.agg #[.int .i64 0, .int .i64 0]), 2, 16) := by kernel_rfl

theorem make25 (n : Nat) (hn : n ≤ 1048576) (w : World) : (Instr.makeSlice 47 (.int .i64 n) (.int .i64 n)).run Tryz.prog w = .ok (.slice (some ⟨w.heap.size, 0, none⟩) n n) (w.alloc (.cells (madeCells #[.int .i64 0, .int .i64 0] (n * 2)) 76)) := by
  obtain ⟨i0, hi, hz0, hz1, hz2⟩ := info_parts Tryz.info76
  have h := run_make (P := Tryz.prog) w 47 76 i0 _ Tryz.underlying47 hi hz0 .i64 .i64 n n (by omega) (by omega) (by rw [hz2]; omega) (by omega)
  rw [hz1] at h
  simpa [Value.cells] using h

theorem made_row (w : World) (n : Nat) (L H : Nat → Int) : (w.alloc (.cells (madeCells #[.int .i64 0, .int .i64 0] (n * 2)) 76)).rowIs w.heap.size 76 (n * 2) (fun j => if j < 0 * 2 then flat L H j else .int .i64 0) := by
  have h := World.rowIs_alloc w (madeCells #[.int .i64 0, .int .i64 0] (n * 2)) 76 (fun _ => .int .i64 0) (fun i hi => by
    rw [size_madeCells] at hi
    simp only [madeCells, Array.getElem?_map]
    rw [Array.getElem?_range, if_pos hi]
    have : i % 2 = 0 ∨ i % 2 = 1 := by omega
    rcases this with h | h <;> simp [h])
  rw [size_madeCells] at h
  exact h.congr (fun i _ => by simp)

set_option maxHeartbeats 400000 in
theorem toSpanS_any (a : Option Addr) (b off cap n : Nat) (L H : Nat → Int) (w : World) (hga : 0 < n → a = some ⟨b, off, none⟩) (hc : Sp w b off n L H) (hn : n ≤ 1048576) :
    Calls Tryz.prog 44 #[.slice a n cap] w fun e w' => e = .returned (.slice (some ⟨w.heap.size, 0, none⟩) n n) ∧ w'.rowIs w.heap.size 76 (n * 2) (flat L H) ∧ Below w.heap.size w w' := by
  have hmk := make25 n hn
  go_enter Tryz.func44, Tryz.ntmps44
  go_wp2
  clear hmk
  go_loopw [4] (fun i wr => ∃ k : Nat, k ≤ n ∧ i = .int .i64 k ∧ wr.rowIs w.heap.size 76 (n * 2) (fun j => if j < k * 2 then flat L H j else .int .i64 0) ∧ Below w.heap.size w wr)
    (fun i _ => n - (intOf i).toNat)
  case atStart => exact ⟨0, Nat.zero_le _, rfl, made_row w n L H, (Below.refl _ _).alloc (Nat.le_refl _) _⟩
  case round =>
    obtain ⟨k, hk, rfl, hrow, hB⟩ := hrel
    by_cases hlt : k < n
    · obtain rfl := hga (by omega)
      have hltz : (k : Int) < (n : Int) := by omega
      obtain ⟨c1, c2⟩ := hc k hlt
      have d1 : wr.cell? ⟨b, off + k * 2, none⟩ = some (.int .i64 (L k)) := (hB.cell (p := ⟨b, _, none⟩) (World.block_lt_of_cell? _ _ c1)).trans c1
      have d2 : wr.cell? ⟨b, off + k * 2 + 1, none⟩ = some (.int .i64 (H k)) := (hB.cell (p := ⟨b, _, none⟩) (World.block_lt_of_cell? _ _ c2)).trans c2
      clear c1 c2
      go_wp2_with fail
      refine (toSpan_any _ _ _).mono ?_
      rintro e w1 ⟨rfl, hb1⟩
      have hrow1 := row_below hrow hb1
      have e1 := hrow1.cell (i := k * 2) (by omega)
      have e2 := hrow1.cell (i := k * 2 + 1) (by omega)
      have f1 := hrow1.frozen (k * 2)
      have f2 := hrow1.frozen (k * 2 + 1)
      go_wp2
      go_roundw
      case rel => exact ⟨k + 1, by omega, by go_num, row_step hrow1, ((hB.trans (hb1.mono hB.size)).setCell (by simp) _).setCell (by simp) _⟩
      case measure => simp [intOf]; omega
    · go_wp2
      go_ret
      obtain rfl : k = n := by omega
      exact ⟨rfl, hrow.congr (fun j hj => by rw [if_pos hj]), hB⟩
end Go.Proofs.YtplpdikkkbiacaaGreatDoor
namespace Go.Proofs.YtplpdikkkbiacaaGreatDoor
open Go.RowKit
set_option linter.unusedVariables false
set_option linter.unusedSimpArgs false

set_option maxHeartbeats 400000 in
theorem eqSpanS_any (a a' : Option Addr) (b off cap n b' off' cap' m : Nat) (L H L' H' : Nat → Int) (w : World) (hga : 0 < n → a = some ⟨b, off, none⟩) (hc : Sp w b off n L H)
    (hga' : 0 < m → a' = some ⟨b', off', none⟩) (hc' : Sp w b' off' m L' H') (hn : n ≤ 4194304) (hm : m ≤ 4194304) :
    Calls Tryz.prog 52 #[.slice a n cap, .slice a' m cap'] w fun e w' => e = .returned (.bool (eqB n L H m L' H')) ∧ Below w.heap.size w w' := by
  by_cases hnm : n = m
  · subst hnm
    have hnn : ((n : Int) != (n : Int)) = false := by simp
    go_enter Tryz.func52, Tryz.ntmps52
    go_wp2
    go_loopw [5] (fun i wr => ∃ k : Nat, k ≤ n ∧ i = .int .i64 k ∧ (∀ j, j < k → L j = L' j ∧ H j = H' j) ∧ Below w.heap.size w wr) (fun i _ => n - (intOf i).toNat)
    case atStart => exact ⟨0, Nat.zero_le _, rfl, fun j hj => absurd hj (Nat.not_lt_zero _), Below.refl _ _⟩
    case round =>
      obtain ⟨k, hk, rfl, hall, hB⟩ := hrel
      have Hall : Hid (∀ j, j < k → L j = L' j ∧ H j = H' j) := hall
      clear hall
      by_cases hlt : k < n
      · obtain rfl := hga (by omega)
        obtain rfl := hga' (by omega)
        have hltz : (k : Int) < (n : Int) := by omega
        obtain ⟨c1, c2⟩ := (hc.below hB) k hlt
        obtain ⟨c3, c4⟩ := (hc'.below hB) k hlt
        go_wp2_with fail
        go_region_with (go_at_call 72; refine (eqSpan_any _ _ _ _ _).mono ?_; rintro e w1 ⟨rfl, hb1⟩)
        all_goals go_wp2
        all_goals first
          | (go_roundw; case rel => exact ⟨k + 1, by omega, by go_num, eq_step Hall.out (by assumption), hB.drew.trans (hb1.mono hB.size)⟩
             case measure => simp [intOf]; omega)
          | (go_ret; exact ⟨ret_bool (eqB_at' hlt (by assumption)).symm, hB.drew.trans (hb1.mono hB.size)⟩)
      · go_wp2
        go_ret
        obtain rfl : k = n := by omega
        exact ⟨ret_bool (eqB_all Hall.out).symm, hB⟩
  · have hnn : ((n : Int) != (m : Int)) = true := by simp; omega
    go_enter Tryz.func52, Tryz.ntmps52
    go_wp2
    go_ret
    exact ⟨ret_bool (eqB_len hnm).symm, Below.refl _ _⟩
end Go.Proofs.YtplpdikkkbiacaaGreatDoor
namespace Go.Proofs.YtplpdikkkbiacaaGreatDoor
open Go.RowKit
set_option linter.unusedVariables false
set_option linter.unusedSimpArgs false

/-- a list of sets: where each lies and what it is -/
structure Nest where
  a : Nat → Option Addr
  b : Nat → Nat
  off : Nat → Nat
  cap : Nat → Nat
  n : Nat → Nat
  L : Nat → Nat → Int
  H : Nat → Nat → Int
/-- n sets lie in block b from off on, one cell each -/
def SS (w : World) (b off n : Nat) (N : Nest) : Prop :=
  ∀ i, i < n → w.cell? ⟨b, off + i, none⟩ = some (.slice (N.a i) (N.n i) (N.cap i)) ∧ (0 < N.n i → N.a i = some ⟨N.b i, N.off i, none⟩) ∧ Sp w (N.b i) (N.off i) (N.n i) (N.L i) (N.H i)
theorem SS.below {w w' : World} {b off n : Nat} {N : Nest} (h : SS w b off n N) (hb : Below w.heap.size w w') : SS w' b off n N := by
  intro i hi
  obtain ⟨h1, h2, h3⟩ := h i hi
  exact ⟨(hb.cell (p := ⟨b, _, none⟩) (World.block_lt_of_cell? _ _ h1)).trans h1, h2, h3.below hb⟩

end Go.Proofs.YtplpdikkkbiacaaGreatDoor
namespace Go.Proofs.YtplpdikkkbiacaaGreatDoor
open Go.RowKit
set_option linter.unusedVariables false
set_option linter.unusedSimpArgs false

set_option maxHeartbeats 400000 in
theorem implSetOk_any (a : Option Addr) (b off cap n : Nat) (L H : Nat → Int) (w : World) (hga : 0 < n → a = some ⟨b, off, none⟩) (hc : Sp w b off n L H) (hn : n ≤ 4194304) :
    Calls Tryz.prog 86 #[.slice a n cap] w fun e w' => e = .returned (.bool (okB n L H)) ∧ Below w.heap.size w w' := by
  go_enter Tryz.func86, Tryz.ntmps86
  go_wp2
  go_loopw [3, 8] (fun t i wr => ∃ (k : Nat) (m : Int), k ≤ n ∧ i = .int .i64 k ∧ t = .int .i64 m ∧ Hid (m = leastAt H k ∧ ∀ j, j < k → OkAt L H j) ∧ Below w.heap.size w wr) (fun _ i _ => n - (intOf i).toNat)
  case atStart => exact ⟨0, 0, Nat.zero_le _, rfl, rfl, ⟨rfl, fun j hj => absurd hj (Nat.not_lt_zero _)⟩, Below.refl _ _⟩
  case round =>
    obtain ⟨k, m, hk, rfl, rfl, Hall, hB⟩ := hrel
    by_cases hlt : k < n
    · obtain rfl := hga (by omega)
      have hltz : (k : Int) < (n : Int) := by omega
      obtain ⟨c1, c2⟩ := (hc.below hB) k hlt
      have hm : 0 ≤ m ∧ m ≤ 257 := by have := leastAt_bd Hall.out.2; rw [Hall.out.1]; exact this
      obtain ⟨hm0, hm1⟩ := hm
      go_wp2
      all_goals first
        | (go_roundw; case rel => exact ⟨k + 1, H k + 2, by omega, by go_num, rfl, ⟨(leastAt_succ H k).symm, ok_step Hall.out.2 ((okAt_least Hall.out.2).2 (by rw [← Hall.out.1]; omega))⟩, hB.alloc hB.size _⟩
           case measure => simp [intOf]; omega)
        | (go_ret; exact ⟨ret_bool (okB_false hlt (fun o => by have := (okAt_least Hall.out.2).1 o; rw [← Hall.out.1] at this; omega)).symm, hB.alloc hB.size _⟩)
    · go_wp2
      go_ret
      obtain rfl : k = n := by omega
      exact ⟨ret_bool (okB_true Hall.out.2).symm, hB⟩

end Go.Proofs.YtplpdikkkbiacaaGreatDoor

