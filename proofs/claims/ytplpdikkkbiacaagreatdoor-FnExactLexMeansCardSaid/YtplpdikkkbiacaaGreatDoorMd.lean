/- the walk of l3Star -/
import Derived.Test.YtplpdikkkbiacaaGreatDoorMc
namespace Go.Proofs.YtplpdikkkbiacaaGreatDoor
open Go.RowKit
set_option linter.unusedVariables false
set_option linter.unusedSimpArgs false

theorem Tryz.info4 : (Tryz.prog.info? 4).map (fun i => (i.zero, i.size, i.bytes)) = some (some (.bool false), 1, 1) := by kernel_rfl

theorem make72 (n : Nat) (hn : n ≤ 1048576) (w : World) : (Instr.makeSlice 129 (.int .i64 ((n : Int) + 1)) (.int .i64 ((n : Int) + 1))).run Tryz.prog w = .ok (.slice (some ⟨w.heap.size, 0, none⟩) (n + 1) (n + 1)) (w.alloc (.cells (madeCells #[.bool false] (n + 1)) 4)) := by
  obtain ⟨i0, hi, hz0, hz1, hz2⟩ := info_parts Tryz.info4
  have h := run_make (P := Tryz.prog) w 129 4 i0 _ Tryz.underlying129 hi hz0 .i64 .i64 (n + 1) (n + 1) (by omega) (by omega) (by rw [hz2]; omega) (by omega)
  rw [hz1] at h
  simpa [Value.cells] using h

/-- what is known of the places: those ahead of k, and k itself -/
def okRow (f : List UInt8 → Bool) (l : List UInt8) (k : Nat) (b : Bool) (j : Nat) : Value := .bool (if j < k then okAt f l j else if j = k then b else false)

theorem made_row4 (w : World) (n : Nat) (f : List UInt8 → Bool) (l : List UInt8) : (w.alloc (.cells (madeCells #[.bool false] (n + 1)) 4)).rowIs w.heap.size 4 (n + 1) (okRow f l 0 false) := by
  have h := World.rowIs_alloc w (madeCells #[.bool false] (n + 1)) 4 (fun _ => .bool false) (fun i hi => by
    rw [size_madeCells] at hi
    simp only [madeCells, Array.getElem?_map]
    rw [Array.getElem?_range, if_pos hi]
    have : i % 1 = 0 := by omega
    simp [this])
  rw [size_madeCells] at h
  exact h.congr (fun i _ => by simp [okRow])

theorem made_row4t (w : World) (n : Nat) (f : List UInt8 → Bool) (l : List UInt8) : (w.alloc (.cells ((madeCells #[.bool false] (n + 1)).setIfInBounds 0 (.bool true)) 4)).rowIs w.heap.size 4 (n + 1) (okRow f l 1 false) := by
  have h := World.rowIs_alloc w ((madeCells #[.bool false] (n + 1)).setIfInBounds 0 (.bool true)) 4 (okRow f l 1 false) (fun i hi => by
    rw [Array.size_setIfInBounds, size_madeCells] at hi
    rw [Array.getElem?_setIfInBounds]
    by_cases e : 0 = i
    · subst e
      simp [okRow, okAt_0, size_madeCells]
    · rw [if_neg e]
      simp only [madeCells, Array.getElem?_map]
      rw [Array.getElem?_range, if_pos hi]
      have : i % 1 = 0 := by omega
      have e1 : ¬ i < 1 := by omega
      simp [this, okRow, e1])
  rw [Array.size_setIfInBounds, size_madeCells] at h
  exact h

theorem okRow_set {w : World} {g n k : Nat} {f : List UInt8 → Bool} {l : List UInt8} {b b' : Bool} (h : w.rowIs g 4 n (okRow f l k b)) : (w.setCell ⟨g, k, none⟩ (.bool b')).rowIs g 4 n (okRow f l k b') := by
  refine (h.set k _).congr (fun i _ => ?_)
  by_cases e : i = k
  · subst e; simp [okRow]
  · simp [okRow, e]
theorem okRow_next {w : World} {g n k : Nat} {f : List UInt8 → Bool} {l : List UInt8} {b : Bool} (h : w.rowIs g 4 n (okRow f l k b)) (hb : b = okAt f l k) : w.rowIs g 4 n (okRow f l (k + 1) false) := by
  refine h.congr (fun i _ => ?_)
  by_cases e : i < k
  · simp [okRow, e, show i < k + 1 by omega]
  · by_cases e' : i = k
    · subst e'; simp [okRow, hb]
    · simp [okRow, e, e', show ¬ i < k + 1 by omega]

set_option maxRecDepth 100000 in
set_option maxHeartbeats 4000000 in
theorem l3Star_any (k1 : Int) (a1 b1 : Option Addr) (n1 c1 m1 d1 : Nat) (f : List UInt8 → Bool) (s : ByteArray) (hs : s.size ≤ 12) (w : World)
    (H1 : Hid (L3 w (.agg #[.int .i64 k1, .slice a1 n1 c1, .slice b1 m1 d1]) f)) :
    Calls Tryz.prog 58 #[.agg #[.int .i64 k1, .slice a1 n1 c1, .slice b1 m1 d1], .string s] w fun e w' => e = .returned (.bool (starS f (tx s))) ∧ Below w.heap.size w w' := by
  have HSZ : Hid (s.size = (tx s).length) := tx_size s
  have hmk := make72 s.size (by omega)
  have hn0 : ¬ ((s.size : Int) + 1 ≤ 0) := by omega
  have hrow0 := made_row4 (w.alloc (.cells #[.int .i64 k1, .slice a1 n1 c1, .slice b1 m1 d1] 50)) s.size f (tx s)
  have hrow1 := made_row4t (w.alloc (.cells #[.int .i64 k1, .slice a1 n1 c1, .slice b1 m1 d1] 50)) s.size f (tx s)
  have hg0 : (w.alloc (.cells #[.int .i64 k1, .slice a1 n1 c1, .slice b1 m1 d1] 50)).heap.size = w.heap.size + 1 := by simp
  rw [hg0] at hrow0 hrow1
  have e0 := hrow0.cell (i := 0) (by omega)
  have f0 := hrow0.frozen 0
  have HR1 : Hid (((w.alloc (.cells #[.int .i64 k1, .slice a1 n1 c1, .slice b1 m1 d1] 50)).alloc (.cells ((madeCells #[.bool false] (s.size + 1)).setIfInBounds 0 (.bool true)) 4)).rowIs (w.heap.size + 1) 4 (s.size + 1) (okRow f (tx s) 1 false)) := hrow1
  clear hrow0 hrow1 hg0
  go_enter Tryz.func58, Tryz.ntmps58
  go_wp2_with fail
  clear e0 f0 hmk
  go_loopw [6] (fun i wr => ∃ k : Nat, 1 ≤ k ∧ k ≤ s.size + 1 ∧ i = .int .i64 k ∧ wr.rowIs (w.heap.size + 1) 4 (s.size + 1) (okRow f (tx s) k false) ∧ Below w.heap.size w wr ∧
    Hid (wr.cell? ⟨w.heap.size, 0, none⟩ = some (.int .i64 k1) ∧ wr.cell? ⟨w.heap.size, 1, none⟩ = some (.slice a1 n1 c1) ∧ wr.cell? ⟨w.heap.size, 2, none⟩ = some (.slice b1 m1 d1))) (fun i _ => s.size + 1 - (intOf i).toNat)
  case atStart =>
    refine ⟨1, Nat.le_refl _, by omega, rfl, HR1.out, ?_, ?_⟩
    · exact ((Below.refl _ _).alloc (Nat.le_refl _) _).alloc (by simp) _
    · rw [Hid]
      simp [go_sem]
  case round =>
    obtain ⟨k, hk1, hk, rfl, hrow, hB, HX⟩ := hrel
    by_cases hlt : k ≤ s.size
    · have hltz : (k : Int) ≤ (s.size : Int) := by omega
      go_wp2_with fail
      go_loopw [7] (fun i wq => ∃ j : Nat, j ≤ k ∧ i = .int .i64 j ∧ wq.rowIs (w.heap.size + 1) 4 (s.size + 1) (okRow f (tx s) k (okTo f (tx s) k j)) ∧ Below w.heap.size w wq ∧
        Hid (wq.cell? ⟨w.heap.size, 0, none⟩ = some (.int .i64 k1) ∧ wq.cell? ⟨w.heap.size, 1, none⟩ = some (.slice a1 n1 c1) ∧ wq.cell? ⟨w.heap.size, 2, none⟩ = some (.slice b1 m1 d1))) (fun i _ => k - (intOf i).toNat)
      case atStart => exact ⟨0, Nat.zero_le _, rfl, hrow, hB, HX⟩
      case round =>
        clear hrow hB HX
        obtain ⟨j, hj, rfl, hrow, hB, HX⟩ := hrel
        have ek := hrow.cell (i := k) (by omega)
        have fk := hrow.frozen k
        have HEK : Hid (okRow f (tx s) k (okTo f (tx s) k j) k = .bool (okTo f (tx s) k j)) := by rw [Hid]; simp [okRow]
        rw [HEK.out] at ek
        have hkz : (k : Int) < (s.size : Int) + 1 := by omega
        by_cases hjk : j < k
        · have hjz : (j : Int) < (k : Int) := by omega
          have hjz2 : (j : Int) ≤ (k : Int) := by omega
          have hjs : (j : Int) < (s.size : Int) + 1 := by omega
          rcases Bool.eq_false_or_eq_true (okTo f (tx s) k j) with ht | ht
          · have HT : Hid (okTo f (tx s) k j = okAt f (tx s) k) := by
              rw [Hid, ht, ← okTo_all f (tx s) k (by omega) (by rw [← HSZ.out]; exact hlt)]
              exact (okTo_mono ht hj).symm
            rw [ht] at ek
            go_wp2_with fail
            go_roundw
            case rel => exact ⟨k + 1, by omega, by omega, by go_num, okRow_next hrow HT.out, hB, HX⟩
            case measure => simp [intOf]; omega
          · have HST : Hid (okTo f (tx s) k (j + 1) = (okAt f (tx s) j && f (((tx s).drop j).take (k - j)))) := by rw [Hid, okTo_succ, ht, Bool.false_or]
            rw [ht] at ek
            have ej := hrow.cell (i := j) (by omega)
            have HEJ : Hid (okRow f (tx s) k (okTo f (tx s) k j) j = .bool (okAt f (tx s) j)) := by rw [Hid]; simp [okRow, hjk]
            rw [HEJ.out] at ej
            obtain ⟨x0, x1, x2⟩ := HX.out
            have HC : Hid (Calls Tryz.prog 43 #[.agg #[.int .i64 k1, .slice a1 n1 c1, .slice b1 m1 d1], .string (s.extract j k)] wr.drew fun e w' => e = .returned (.bool (f (((tx s).drop j).take (k - j)))) ∧ Below wr.drew.heap.size wr.drew w') := by
              have := H1.out (s.extract j k) wr.drew (by simp; omega) hB.drew
              rw [tx_extract] at this
              exact this
            rcases Bool.eq_false_or_eq_true (okAt f (tx s) j) with ha | ha
            · rw [ha] at ej HST
              have HCL : Hid (∀ w1, Below wr.drew.heap.size wr.drew w1 → w1.cell? ⟨w.heap.size + 1, k, none⟩ = some (.bool false) ∧ w1.frozen? ⟨w.heap.size + 1, k, none⟩ = false) := fun w1 hb =>
                ⟨(hb.cell (p := ⟨_, _, none⟩) (World.block_lt_of_cell? _ _ ek)).trans ek, ((row_below hrow ((Below.refl _ _).drew.trans hb)).frozen k)⟩
              go_wp2_with fail
              first
                | go_region_with (go_at_call 43; refine HC.out.mono ?_; rintro e w1 ⟨rfl, hb1⟩; obtain ⟨q0, q1⟩ := HCL.out w1 hb1)
                | fail
              all_goals go_wp2_with fail
              all_goals
                go_roundw
                case rel =>
                  have hw : Below wr.heap.size wr w1 := (Below.refl _ _).drew.trans hb1
                  have z0 := (hw.cell (p := ⟨_, _, none⟩) (World.block_lt_of_cell? _ _ x0)).trans x0
                  have z1 := (hw.cell (p := ⟨_, _, none⟩) (World.block_lt_of_cell? _ _ x1)).trans x1
                  have z2 := (hw.cell (p := ⟨_, _, none⟩) (World.block_lt_of_cell? _ _ x2)).trans x2
                  refine ⟨j + 1, by omega, by go_num, by rw [HST.out, Bool.true_and]; exact okRow_set (row_below hrow hw), (hB.trans (hw.mono hB.size)).setCell (by show w.heap.size ≤ w.heap.size + 1; omega) _, ?_⟩
                  rw [Hid]
                  simp [go_sem, z0, z1, z2]
                case measure => simp [intOf]; omega
            · rw [ha] at ej HST
              go_wp2_with fail
              first
                | go_region_with fail
                | fail
              all_goals go_wp2_with fail
              all_goals
                go_roundw
                case rel =>
                  refine ⟨j + 1, by omega, by go_num, by rw [HST.out, Bool.false_and]; exact okRow_set (w := wr.drew) (row_below hrow ((Below.refl _ _).drew : Below wr.heap.size wr wr.drew)), Below.setCell (w := wr.drew) hB.drew (by show w.heap.size ≤ w.heap.size + 1; omega) _, ?_⟩
                  rw [Hid]
                  simp [go_sem, x0, x1, x2]
                case measure => simp [intOf]; omega
        · have hjz : ¬ ((j : Int) < (k : Int)) := by omega
          obtain rfl : j = k := by omega
          go_wp2_with fail
          go_roundw
          case rel => exact ⟨j + 1, by omega, by omega, by go_num, okRow_next hrow (okTo_all f (tx s) j (by omega) (by rw [← HSZ.out]; exact hlt)), hB, HX⟩
          case measure => simp [intOf]; omega
    · have hltz : ¬ ((k : Int) ≤ (s.size : Int)) := by omega
      obtain rfl : k = s.size + 1 := by omega
      have e0 := hrow.cell (i := s.size) (by omega)
      have HR : Hid (okRow f (tx s) (s.size + 1) false s.size = .bool (starS f (tx s))) := by
        rw [Hid, HSZ.out, ← okAt_all]; simp [okRow]
      rw [HR.out] at e0
      go_wp2_with fail
      go_ret
      exact ⟨rfl, hB⟩
end Go.Proofs.YtplpdikkkbiacaaGreatDoor

