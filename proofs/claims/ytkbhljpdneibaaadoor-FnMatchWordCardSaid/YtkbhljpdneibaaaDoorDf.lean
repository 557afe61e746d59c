/- The walk of l1Set: some set is drawn. -/
import Derived.Test.YtkbhljpdneibaaaDoorDe
namespace Go.Proofs.YtkbhljpdneibaaaDoor
open Go.RowKit
set_option linter.unusedVariables false
set_option linter.unusedSimpArgs false

def lo9 (i : Nat) : Int := ([0, 48, 97, 97, 98, 99, 120, 254, 255] : List Int).getD i 0
def up7 (i : Nat) : Int := ([0, 0, 1, 2, 9, 25, 200] : List Int).getD i 0
theorem lo9_at : ∀ i, i < 9 → (#[.int .i64 0, .int .i64 48, .int .i64 97, .int .i64 97, .int .i64 98, .int .i64 99, .int .i64 120, .int .i64 254, .int .i64 255] : Array Value)[i]? = some (.int .i64 (lo9 i)) := fun i hi => match i, hi with
  | 0, _ => rfl
  | 1, _ => rfl
  | 2, _ => rfl
  | 3, _ => rfl
  | 4, _ => rfl
  | 5, _ => rfl
  | 6, _ => rfl
  | 7, _ => rfl
  | 8, _ => rfl
theorem up7_at : ∀ i, i < 7 → (#[.int .i64 0, .int .i64 0, .int .i64 1, .int .i64 2, .int .i64 9, .int .i64 25, .int .i64 200] : Array Value)[i]? = some (.int .i64 (up7 i)) := fun i hi => match i, hi with
  | 0, _ => rfl
  | 1, _ => rfl
  | 2, _ => rfl
  | 3, _ => rfl
  | 4, _ => rfl
  | 5, _ => rfl
  | 6, _ => rfl
theorem lo9_bd : ∀ i, i < 9 → 0 ≤ lo9 i ∧ lo9 i ≤ 255 := fun i hi => match i, hi with
  | 0, _ => by decide
  | 1, _ => by decide
  | 2, _ => by decide
  | 3, _ => by decide
  | 4, _ => by decide
  | 5, _ => by decide
  | 6, _ => by decide
  | 7, _ => by decide
  | 8, _ => by decide
theorem up7_bd : ∀ i, i < 7 → 0 ≤ up7 i ∧ up7 i ≤ 200 := fun i hi => match i, hi with
  | 0, _ => by decide
  | 1, _ => by decide
  | 2, _ => by decide
  | 3, _ => by decide
  | 4, _ => by decide
  | 5, _ => by decide
  | 6, _ => by decide

/-- a set of n spans lies in memory -/
def SetIn (B : Nat → Prop) (w : World) (v : Value) (n : Nat) (L H : Nat → Int) : Prop := ∃ (a : Option Addr) (b off cap : Nat), v = .slice a n cap ∧ (0 < n → a = some ⟨b, off, none⟩ ∧ B b) ∧ Sp w b off n L H
/-- some set is drawn -/
def SetRes (rb p : Nat) (w : World) (e : Ending) (w' : World) : Prop := ∃ (v : Value) (n : Nat) (L H : Nat → Int) (p' : Nat), e = .returned v ∧ n ≤ 256 ∧ SetIn (fun k => w.heap.size ≤ k ∧ Soft w' k) w' v n L H ∧ p' ≤ p + 7 ∧ Rdr w' rb p' ∧ w.grownBy w' (some rb)

theorem info4D : (Tryd.prog.info? 4).map (fun i => (i.zero, i.size, i.bytes)) = some (some (.bool false), 1, 1) := by kernel_rfl
theorem make88 (w : World) : (Instr.makeSlice 90 (.int .i64 256) (.int .i64 256)).run Tryd.prog w = .ok (.slice (some ⟨w.heap.size, 0, none⟩) 256 256) (w.alloc (.cells (madeCells #[.bool false] 256) 4)) := by
  obtain ⟨i0, hi, hz0, hz1, hz2⟩ := info_parts info4D
  have h := run_make (P := Tryd.prog) w 90 4 i0 _ Tryd.underlying90 hi hz0 .i64 .i64 256 256 (by omega) (by omega) (by rw [hz2]; omega) (by omega)
  rw [hz1] at h
  simpa [Value.cells] using h
theorem made_row88 (w : World) : (w.alloc (.cells (madeCells #[.bool false] 256) 4)).rowIs w.heap.size 4 256 (fun x => .bool ((fun _ => false : Nat → Bool) x)) := by
  have h := World.rowIs_alloc w (madeCells #[.bool false] 256) 4 (fun _ => .bool false) (fun i hi => by
    rw [size_madeCells] at hi
    simp only [madeCells, Array.getElem?_map]
    rw [Array.getElem?_range, if_pos hi]
    simp [show i % 1 = 0 by omega])
  rw [size_madeCells] at h
  exact h.congr (fun i _ => by simp)

theorem SetIn.of_row {w w' : World} {base : Nat} {v : Value} {R : List (Nat × Nat)} (h : w'.ownsRow base 59 2 v R.length (cellsR R)) : ∃ L H, SetIn (fun k => base ≤ k ∧ Soft w' k) w' v R.length L H := by
  rcases h.2 with ⟨rfl, h0⟩ | ⟨g, cap, cur, rfl, h1, h2, h3, h4, h5, h6⟩
  · exact ⟨fun _ => 0, fun _ => 0, none, 0, 0, 0, by rw [h0], fun hh => by omega, fun i hi => by omega⟩
  · refine ⟨fun i => ((R[i]?).getD (0, 0)).1, fun i => ((R[i]?).getD (0, 0)).2, some ⟨g, 0, none⟩, g, 0, cap, rfl, fun _ => ⟨rfl, h1, cur, 59, h2⟩, fun i hi => ?_⟩
    have hc : ∀ (R : List (Nat × Nat)) (i : Nat), i < R.length → (cellsR R)[i * 2]? = some (.int .i64 ((((R[i]?).getD (0, 0)).1 : Nat) : Int)) ∧ (cellsR R)[i * 2 + 1]? = some (.int .i64 ((((R[i]?).getD (0, 0)).2 : Nat) : Int)) := by
      intro R
      induction R with
      | nil => intro i hi; simp at hi
      | cons x R ih =>
        intro i hi
        have e : cellsR (x :: R) = .int .i64 (x.1 : Int) :: .int .i64 (x.2 : Int) :: cellsR R := rfl
        cases i with
        | zero => rw [e]; exact ⟨rfl, rfl⟩
        | succ i =>
          have := ih i (by simpa using hi)
          rw [e, show (i + 1) * 2 = i * 2 + 2 by omega, show i * 2 + 2 + 1 = (i * 2 + 1) + 2 by omega]
          simpa using this
    have a1 := World.ownsRow.cellAt h (i * 2) (by omega)
    have a2 := World.ownsRow.cellAt h (i * 2 + 1) (by omega)
    rw [(hc R i hi).1] at a1
    rw [(hc R i hi).2] at a2
    exact ⟨by simpa using a1, by simpa using a2⟩

set_option maxRecDepth 100000 in
set_option maxHeartbeats 2000000 in
theorem l1Set_any (rb p : Nat) (hp : p ≤ 900000) (w : World) (h : Rdr w rb p) : Calls Tryd.prog 57 #[.pointer (some ⟨rb, 0, none⟩)] w (SetRes rb p w) := by
  have hrl := h.lt
  have hmk := make88 w
  have HP : Hid (Calls Tryd.prog 28 #[.pointer (some ⟨rb, 0, none⟩), .int .i64 3] (w.alloc (.cells (madeCells #[.bool false] 256) 4)) (PickRes 3 rb p (w.alloc (.cells (madeCells #[.bool false] 256) 4)))) := pick_any rb p (by omega) 3 (by omega) (by omega) _ (h.below (below_new _ _))
  go_enter Tryd.func57, Tryd.ntmps57
  go_wp2_with fail
  refine HP.out.mono ?_
  rintro e w1 ⟨i, rfl, ⟨i0, i1, i2⟩, hr, hg⟩
  obtain ⟨k, rfl⟩ : ∃ k : Nat, i = (k : Int) := ⟨i.toNat, by omega⟩
  have hk : k < 3 := by have := i1 (by omega); omega
  have HROW : Hid (w1.rowIs w.heap.size 4 256 (fun x => .bool ((fun _ => false : Nat → Bool) x))) := (made_row88 w).of_block (hg.block _ (by rw [size_new]; omega) (by simp; omega))
  have HG : Hid (w.grownBy w1 (some rb)) := (grown_of_below (below_new _ _)).trans hg
  have HRD : Hid (Rdr w1 rb (p + 1)) := hr
  clear hr hg HP h hmk i1 i2
  go_wp2_with fail
  go_loopg [4] (k + 1) (fun gk ix wr => ∃ (p' : Nat) (B : Nat → Bool), ix = .int .i64 (gk : Int) ∧ gk ≤ 3 ∧ p' + 2 * gk ≤ p + 7 ∧ wr.rowIs w.heap.size 4 256 (fun x => .bool (B x)) ∧ Rdr wr rb p' ∧ w.grownBy wr (some rb))
  case atStart => exact ⟨p + 1, fun _ => false, by congr 1; omega, by omega, by omega, HROW.out, HRD.out, HG.out⟩
  case round =>
    clear HROW HG HRD hk
    obtain ⟨p', B, rfl, hgk, hp', hrow, hr, hg⟩ := hrel
    cases gk with
    | zero =>
      have HL : Hid (Calls Tryd.prog 63 #[.slice (some ⟨w.heap.size, 0, none⟩) 256 256] wr fun e w' => ∃ v, e = .returned v ∧ w'.ownsRow wr.heap.size 59 2 v (runs B 256).length (cellsR (runs B 256)) ∧ Below wr.heap.size wr w') := l1Of_any w.heap.size 256 B wr hrow
      have HR : Hid (∀ v w2, w2.ownsRow wr.heap.size 59 2 v (runs B 256).length (cellsR (runs B 256)) → Below wr.heap.size wr w2 → SetRes rb p w (.returned v) w2) := fun v w2 ho hb => by
        obtain ⟨L, H, hs⟩ := SetIn.of_row (w := wr) ho
        obtain ⟨a, b, off, cap, e1, e2, e3⟩ := hs
        exact ⟨v, _, L, H, p', rfl, runs_len B 256, ⟨a, b, off, cap, e1, fun h => ⟨(e2 h).1, Nat.le_trans hg.size (e2 h).2.1, (e2 h).2.2⟩, e3⟩, by omega, hr.below hb, hg.trans (grown_of_below hb)⟩
      clear hrow hr hg
      go_wp2_with fail
      refine HL.out.mono ?_
      rintro e w2 ⟨v, rfl, ho, hb⟩
      have HF : Hid (SetRes rb p w (.returned v) w2) := HR.out v w2 ho hb
      clear HR HL ho hb
      go_wp2_with fail
      go_ret
      exact HF.out
    | succ k' =>
      have hz : (0 : Int) < ((k' + 1 : Nat) : Int) := by omega
      have hrl2 := hr.lt
      have hws : w.heap.size < wr.heap.size := hrow.lt
      have HN1 : Hid (Calls Tryd.prog 30 #[.pointer (some ⟨rb, 0, none⟩), .slice (some ⟨wr.heap.size, 0, none⟩) 9 9] (wr.alloc (.cells #[.int .i64 0, .int .i64 48, .int .i64 97, .int .i64 97, .int .i64 98, .int .i64 99, .int .i64 120, .int .i64 254, .int .i64 255] 3)) (OneRes (fun i => .int .i64 (lo9 i)) 9 rb p' (wr.alloc (.cells #[.int .i64 0, .int .i64 48, .int .i64 97, .int .i64 97, .int .i64 98, .int .i64 99, .int .i64 120, .int .i64 254, .int .i64 255] 3)))) :=
        num_any rb p' (by omega) wr.heap.size 9 9 lo9 (by omega) (by omega) _ (hr.below (below_new _ _)) (by omega) (fun i hi => new_cell _ _ _ _ _ (lo9_at i hi))
      have HG1 : Hid (w.grownBy (wr.alloc (.cells #[.int .i64 0, .int .i64 48, .int .i64 97, .int .i64 97, .int .i64 98, .int .i64 99, .int .i64 120, .int .i64 254, .int .i64 255] 3)) (some rb)) := hg.trans (grown_of_below (below_new _ _))
      have HROW1 : Hid ((wr.alloc (.cells #[.int .i64 0, .int .i64 48, .int .i64 97, .int .i64 97, .int .i64 98, .int .i64 99, .int .i64 120, .int .i64 254, .int .i64 255] 3)).rowIs w.heap.size 4 256 (fun x => .bool (B x))) := row_below hrow (below_new _ _)
      clear hr hg hrow
      go_wp2_with fail
      refine HN1.out.mono ?_
      rintro e w2 ⟨i, hi, rfl, hr2, hg2⟩
      obtain ⟨x, hx⟩ : ∃ x : Int, x = lo9 i := ⟨_, rfl⟩
      have hxb := lo9_bd i hi
      rw [← hx] at hxb
      obtain ⟨xb0, xb1⟩ := hxb
      have hrl3 := hr2.lt
      have hws2 : w.heap.size < w2.heap.size := Nat.lt_of_lt_of_le HROW1.out.lt hg2.size
      have HROW2 : Hid (w2.rowIs w.heap.size 4 256 (fun x => .bool (B x))) := HROW1.out.of_block (hg2.block _ HROW1.out.lt (by simp; omega))
      have HG2 : Hid (w.grownBy w2 (some rb)) := HG1.out.trans hg2
      have HN2 : Hid (Calls Tryd.prog 30 #[.pointer (some ⟨rb, 0, none⟩), .slice (some ⟨w2.heap.size, 0, none⟩) 7 7] (w2.alloc (.cells #[.int .i64 0, .int .i64 0, .int .i64 1, .int .i64 2, .int .i64 9, .int .i64 25, .int .i64 200] 3)) (OneRes (fun i => .int .i64 (up7 i)) 7 rb (p' + 1) (w2.alloc (.cells #[.int .i64 0, .int .i64 0, .int .i64 1, .int .i64 2, .int .i64 9, .int .i64 25, .int .i64 200] 3)))) :=
        num_any rb (p' + 1) (by omega) w2.heap.size 7 7 up7 (by omega) (by omega) _ (hr2.below (below_new _ _)) (by omega) (fun i hi => new_cell _ _ _ _ _ (up7_at i hi))
      have HG3 : Hid (w.grownBy (w2.alloc (.cells #[.int .i64 0, .int .i64 0, .int .i64 1, .int .i64 2, .int .i64 9, .int .i64 25, .int .i64 200] 3)) (some rb)) := HG2.out.trans (grown_of_below (below_new _ _))
      have HROW3 : Hid ((w2.alloc (.cells #[.int .i64 0, .int .i64 0, .int .i64 1, .int .i64 2, .int .i64 9, .int .i64 25, .int .i64 200] 3)).rowIs w.heap.size 4 256 (fun x => .bool (B x))) := row_below HROW2.out (below_new _ _)
      simp only [← hx]
      clear hr2 hg2 HN1 HG1 HROW1 HROW2 HG2 hx
      go_wp2_with fail
      refine HN2.out.mono ?_
      rintro e w3 ⟨j, hj, rfl, hr3, hg3⟩
      obtain ⟨y, hy⟩ : ∃ y : Int, y = up7 j := ⟨_, rfl⟩
      have hyb := up7_bd j hj
      rw [← hy] at hyb
      obtain ⟨yb0, yb1⟩ := hyb
      have hrl4 := hr3.lt
      have HROW4 : Hid (w3.rowIs w.heap.size 4 256 (fun x => .bool (B x))) := HROW3.out.of_block (hg3.block _ HROW3.out.lt (by simp; omega))
      have HG4 : Hid (w.grownBy w3 (some rb)) := HG3.out.trans hg3
      have HR4 : Hid (Rdr w3 rb (p' + 2)) := hr3
      simp only [← hy]
      clear hr3 hg3 HN2 HG3 HROW3 hy
      go_wp2_with fail
      refine (l1Min_any 255 (x + y) _).mono ?_
      rintro e w4 ⟨rfl, hw4⟩
      subst w4
      obtain ⟨z, hzz⟩ : ∃ z : Int, z = (if 255 < x + y then 255 else x + y) := ⟨_, rfl⟩
      have hz1 : z ≤ 255 := by rw [hzz]; split <;> omega
      have hz0 : 0 ≤ z := by rw [hzz]; split <;> omega
      rw [← hzz]
      clear hzz
      go_wp2_with fail
      go_loopg [7] (256 - x.toNat) (fun gk ix wr => ∃ (k : Nat) (B : Nat → Bool), ix = .int .i64 (k : Int) ∧ gk = 256 - k ∧ k ≤ 256 ∧ wr.rowIs w.heap.size 4 256 (fun x => .bool (B x)) ∧ Rdr wr rb (p' + 2) ∧ w.grownBy wr (some rb))
      case atStart => exact ⟨x.toNat, B, by congr 1; omega, rfl, by omega, HROW4.out, HR4.out, HG4.out⟩
      case round =>
        clear HROW4 HR4 HG4 B
        obtain ⟨k, B, rfl, rfl, hk, hrow, hr, hg⟩ := hrel
        have hrl5 := hr.lt
        by_cases hle : (k : Int) ≤ z
        · have hk0 : (0 : Int) ≤ (k : Int) := by omega
          have hk1 : (k : Int) < 256 := by omega
          have hc := hrow.cell (i := k) (by omega)
          have hf := hrow.frozen k
          have HROW5 : Hid ((wr.setCell ⟨w.heap.size, k, none⟩ (.bool true)).rowIs w.heap.size 4 256 (fun x => .bool ((fun x => if x = k then true else B x) x))) := (hrow.set k (.bool true)).congr (fun j _ => by by_cases e : j = k <;> simp [e])
          have HR5 : Hid (Rdr (wr.setCell ⟨w.heap.size, k, none⟩ (.bool true)) rb (p' + 2)) := hr.set hrl k _
          have HG5 : Hid (w.grownBy (wr.setCell ⟨w.heap.size, k, none⟩ (.bool true)) (some rb)) := ⟨hg.os, hg.tape, hg.output, by simpa [World.setCell] using hg.size, fun i hi hne => (Below.heap_setCell _ _ _ _ (by simp; omega)).trans (hg.block i hi hne)⟩
          clear hrow hr hg
          go_wp2_with fail
          go_roundg (256 - (k + 1))
          case measure => omega
          case rel => exact ⟨k + 1, _, by go_num, rfl, by omega, HROW5.out, HR5.out, HG5.out⟩
        · have hle' : z < (k : Int) := by omega
          have HREL : Hid (wr.rowIs w.heap.size 4 256 (fun x => .bool (B x)) ∧ Rdr wr rb (p' + 2) ∧ w.grownBy wr (some rb)) := ⟨hrow, hr, hg⟩
          clear hrow hr hg
          go_wp2_with fail
          go_roundg k'
          case measure => omega
          case rel => exact ⟨p' + 2, B, by congr 1, by omega, by omega, HREL.out.1, HREL.out.2.1, HREL.out.2.2⟩
end Go.Proofs.YtkbhljpdneibaaaDoor

