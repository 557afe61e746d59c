/- The walks of l15Many, DrawMatchIs, DrawMatchLong. -/
import Derived.Test.YtkbhljpdneibaaaDoorDo
import Derived.Deep.CutRange
namespace Go.Proofs.YtkbhljpdneibaaaDoor
open Go.RowKit
set_option linter.unusedVariables false
set_option linter.unusedSimpArgs false

theorem many_odd {s o : ByteArray} {a q n : Nat} (h : a = 2 * q + 1) (hz : o.size + s.size * a = n) : (o ++ s).size + (s ++ s).size * q = n := by
  subst h
  rw [Nat.mul_add, Nat.mul_one, Nat.mul_left_comm] at hz
  rw [ByteArray.size_append, ByteArray.size_append, Nat.add_mul]
  omega
theorem many_even {s o : ByteArray} {a q n : Nat} (h : a = 2 * q) (hz : o.size + s.size * a = n) : o.size + (s ++ s).size * q = n := by
  subst h
  rw [Nat.mul_left_comm] at hz
  rw [ByteArray.size_append, Nat.add_mul]
  omega
set_option maxRecDepth 100000 in
set_option maxHeartbeats 2000000 in
theorem many_any (n : Nat) (hn : n ≤ 40) (w : World) : Calls Tryd.prog 29 #[.string ⟨#[97]⟩, .int .i64 (n : Int)] w fun e w' => ∃ s : ByteArray, e = .returned (.string s) ∧ s.size = n ∧ w' = w := by
  go_enter Tryd.func29, Tryd.ntmps29
  go_wp2_with fail
  go_loopg [0, 1, 5] n (fun gk x0 x1 x5 wr => ∃ (s o : ByteArray), x0 = .string s ∧ x1 = .int .i64 (gk : Int) ∧ x5 = .string o ∧ o.size + s.size * gk = n ∧ gk ≤ 40 ∧ wr = w)
  case atStart => exact ⟨⟨#[97]⟩, ⟨#[]⟩, rfl, rfl, rfl, by show 0 + 1 * n = n; omega, hn, rfl⟩
  case round =>
    obtain ⟨s, o, rfl, rfl, rfl, hsz, hg40, hw⟩ := hrel
    subst wr
    cases gk with
    | zero =>
      go_wp2_with fail
      go_ret
      exact ⟨o, rfl, by omega, rfl⟩
    | succ k =>
      have hz : (0 : Int) < ((k + 1 : Nat) : Int) := by omega
      have hss : s.size ≤ 40 := by
        have : s.size * 1 ≤ s.size * (k + 1) := Nat.mul_le_mul_left _ (by omega)
        omega
      have hoo : o.size ≤ 40 := by omega
      have hsum : o.size + s.size ≤ 1000 := by omega
      have hsum2 : s.size + s.size ≤ 1000 := by omega
      have hb40 : ((k + 1 : Nat) : Int) ≤ 40 := by omega
      go_wp2_with fail
      · rename_i hpar
        have hp2 : k + 1 = 2 * ((k + 1) / 2) + 1 := by have := of_decide_eq_true hpar; omega
        go_roundg ((k + 1) / 2)
        case measure => omega
        case rel => exact ⟨s ++ s, o ++ s, rfl, by congr 1, rfl, many_odd hp2 hsz, by omega, rfl⟩
      · rename_i hpar
        have hp2 : k + 1 = 2 * ((k + 1) / 2) := by have := of_decide_eq_false hpar; omega
        go_roundg ((k + 1) / 2)
        case measure => omega
        case rel => exact ⟨s ++ s, o, rfl, by congr 1, rfl, many_even hp2 hsz, by omega, rfl⟩

/-- what is drawn: a Rex, a text -/
def DrawRes (w : World) (e : Ending) (w' : World) : Prop := ∃ (S : Sh) (M : Mx) (s : ByteArray), e = .returned (.tuple #[vx S M, .string s]) ∧ In (Soft w') w' S M ∧ cnt S ≤ 256100 ∧ s.size ≤ 13 ∧ Below w.heap.size w w'
theorem below_grown {w w0 w' : World} {rb : Nat} (hb : Below w.heap.size w w0) (hg : w0.grownBy w' (some rb)) (hrb : w.heap.size ≤ rb) : Below w.heap.size w w' :=
  ⟨hg.os.trans hb.os, hg.tape.trans hb.tape, hg.output.trans hb.output, Nat.le_trans hb.size hg.size, fun k hk => (hg.block k (Nat.lt_of_lt_of_le hk hb.size) (by simp; omega)).trans (hb.block k hk)⟩

set_option maxRecDepth 100000 in
set_option maxHeartbeats 4000000 in
theorem drawIs_any (a : Option Addr) (n c bb off : Nat) (V : Nat → Nat) (w : World) (hn : n ≤ 1048576) (hc : n ≤ c) (hcc : c ≤ 9223372036854775807) (ha : 0 < n → a = some ⟨bb, off, none⟩ ∧ bb < w.heap.size) (hV : ∀ i, i < n → V i ≤ 255 ∧ w.cell? ⟨bb, off + i, none⟩ = some (.int .u8 (V i : Int))) :
    Calls Tryd.prog 12 #[.slice a n c] w (DrawRes w) := by
  obtain ⟨W0, hW0⟩ : ∃ W0, W0 = w.alloc (.cells #[.int .i64 0, .slice none 0 0, .slice none 0 0] 26) := ⟨_, rfl⟩
  have hb0 : Below w.heap.size w W0 := by rw [hW0]; exact below_new _ _
  have hs0 : w.heap.size < W0.heap.size := by rw [hW0, size_new]; omega
  have HRB0 : Hid (Rb W0 w.heap.size) := by rw [Hid, hW0]; exact Rb.new _ _ _ _
  have HB0 : Hid (Below w.heap.size w W0) := hb0
  have HO : Hid (Calls Tryd.prog 21 #[.slice a n c] W0 fun e w' => e = .returned (.pointer (some ⟨W0.heap.size, 0, none⟩)) ∧ Rdr w' W0.heap.size 0 ∧ Below W0.heap.size W0 w') :=
    open_big a n c bb off V W0 hn hc hcc (fun h => ⟨(ha h).1, by have := (ha h).2; omega⟩) (fun i hi => ⟨(hV i hi).1, (hb0.cell (p := ⟨bb, off + i, none⟩) (ha (by omega)).2).trans (hV i hi).2⟩)
  clear hb0 hV ha
  go_enter Tryd.func12, Tryd.ntmps12
  go_wp2_with fail
  rw [← hW0]
  clear hW0
  refine HO.out.mono ?_
  rintro e w1 ⟨rfl, hr1, hb1⟩
  have HR1 : Hid (Rdr w1 W0.heap.size 0) := hr1
  have HB1 : Hid (Below w.heap.size w w1) := HB0.out.trans (hb1.mono HB0.out.size)
  have HRB1 : Hid (Rb w1 w.heap.size) := HRB0.out.of_block (hb1.block _ HRB0.out.lt)
  have hs1 : W0.heap.size ≤ w1.heap.size := hb1.size
  clear hr1 hb1 HO HRB0 HB0
  go_wp2_with fail
  refine (l2Bent_any W0.heap.size 0 (by omega) _ HR1.out).mono ?_
  rintro e w2 ⟨S, M, p2, rfl, hin2, hc2, hp2, hr2, hg2⟩
  obtain ⟨sa, sn, sc, ka, km, kc, es, ek⟩ := hin2.slices
  have HV : Hid (vx S M = .agg #[.int .i64 S.kind, .slice sa sn sc, .slice ka km kc]) := by rw [Hid, vx, es, ek]
  obtain ⟨W3, hW3⟩ : ∃ W3, W3 = w2.alloc (.cells #[.int .i64 S.kind, .slice sa sn sc, .slice ka km kc] 26) := ⟨_, rfl⟩
  have hb3 : Below w2.heap.size w2 W3 := by rw [hW3]; exact below_new _ _
  have hbx3 : W3.heap[w2.heap.size]? = some (.cells #[.int .i64 S.kind, .slice sa sn sc, .slice ka km kc] 26 (0, 0)) := by rw [hW3]; show (w2.heap.push _)[w2.heap.size]? = _; simp
  have hrl := HR1.out.lt
  have hs2 : w1.heap.size ≤ w2.heap.size := hg2.size
  have HXB : Hid (Xb W3 w1.heap.size w2.heap.size S M sa sn sc ka km kc) := ⟨hbx3, es, ek, (hin2.below hb3).mono (fun k hk => ⟨⟨hk.1, hk.2.below hb3⟩, by have := hk.2.lt; omega⟩)⟩
  have HR3 : Hid (Rdr W3 W0.heap.size p2) := hr2.below hb3
  have HB3 : Hid (Below w.heap.size w W3) := (below_grown HB1.out hg2 (by omega)).trans (hb3.mono (by omega))
  have HRB3 : Hid (Rb W3 w.heap.size) := (HRB1.out.of_block (hg2.block _ HRB1.out.lt (by simp; omega))).of_block (hb3.block _ (by omega))
  rw [HV.out]
  have HC2 : Hid (cnt S ≤ 256100) := hc2
  clear es ek hin2 hr2 hg2 hb3 hbx3 HB1 HRB1 HR1 hc2
  go_wp2_with fail
  rw [← hW3]
  clear hW3
  refine (pick_any W0.heap.size p2 (by omega) 30 (by omega) (by omega) _ HR3.out).mono ?_
  rintro e w4 ⟨i, rfl, ⟨i0, i1, i2⟩, hr4, hg4⟩
  have HXB4 : Hid (Xb w4 w1.heap.size w2.heap.size S M sa sn sc ka km kc) := HXB.out.keep hs2 (fun k h1 h2 => hg4.block k h2 (by simp; omega))
  have HR4 : Hid (Rdr w4 W0.heap.size (p2 + 1)) := hr4
  have HB4 : Hid (Below w.heap.size w w4) := below_grown HB3.out hg4 (by omega)
  have HRB4 : Hid (Rb w4 w.heap.size) := HRB3.out.of_block (hg4.block _ HRB3.out.lt (by simp; omega))
  have hbx4 : w2.heap.size < w4.heap.size := HXB4.out.lt
  have hlw4 : w.heap.size < w4.heap.size := HRB4.out.lt
  have HEND : Hid (∀ (s : ByteArray) (V : World), s.size ≤ 13 → w4.grownBy V (some W0.heap.size) → DrawRes w (.returned (.tuple #[.agg #[.int .i64 S.kind, .slice sa sn sc, .slice ka km kc], .string s])) (((V.setCell ⟨w.heap.size, 0, none⟩ (.int .i64 S.kind)).setCell ⟨w.heap.size, 1, none⟩ (.slice sa sn sc)).setCell ⟨w.heap.size, 2, none⟩ (.slice ka km kc))) := by
    intro s V hs hg
    have hx := HXB4.out.keep (w' := V) hs2 (fun k h1 h2 => hg.block k h2 (by simp; omega))
    have hbV := below_grown HB4.out hg (by omega)
    refine ⟨S, M, s, by rw [hx.value], ?_, HC2.out, hs, ((hbV.setCell (Nat.le_refl _) _).setCell (Nat.le_refl _) _).setCell (Nat.le_refl _) _⟩
    exact (soft3 (b := w.heap.size) (c := w1.heap.size) (by omega) _ _ _ (hx.tree.mono (fun k hk => hk.1))).mono (fun k hk => hk.2)
  obtain ⟨_, f0, f1, f2, ff⟩ := boxed HXB4.out.box
  obtain ⟨⟨b0', d0⟩, ⟨b1', d1⟩, ⟨b2', d2⟩, df⟩ := HRB4.out.cells
  have HCL : Hid (∀ V, w4.grownBy V (some W0.heap.size) → (V.cell? ⟨w2.heap.size, 0, none⟩ = some (.int .i64 S.kind) ∧ V.cell? ⟨w2.heap.size, 1, none⟩ = some (.slice sa sn sc) ∧ V.cell? ⟨w2.heap.size, 2, none⟩ = some (.slice ka km kc)) ∧ ((∃ x, V.cell? ⟨w.heap.size, 0, none⟩ = some x) ∧ (∃ x, V.cell? ⟨w.heap.size, 1, none⟩ = some x) ∧ (∃ x, V.cell? ⟨w.heap.size, 2, none⟩ = some x) ∧ ∀ o, V.frozen? ⟨w.heap.size, o, none⟩ = false)) := fun V hg => by
    obtain ⟨_, q0, q1, q2, qf⟩ := boxed ((hg.block _ hbx4 (by simp; omega)).trans HXB4.out.box)
    exact ⟨⟨q0, q1, q2⟩, (HRB4.out.of_block (hg.block _ HRB4.out.lt (by simp; omega))).cells⟩
  clear hr4 hg4 HXB HR3 HB3 HRB3 i2
  by_cases hi : i = 0
  · subst hi
    have hrl4 := HR4.out.lt
    have HN : Hid (Calls Tryd.prog 30 #[.pointer (some ⟨W0.heap.size, 0, none⟩), .slice (some ⟨w4.heap.size, 0, none⟩) 2 2] (w4.alloc (.cells #[.int .i64 12, .int .i64 13] 3)).drew (OneRes (fun i => .int .i64 ((12 + i : Nat) : Int)) 2 W0.heap.size (p2 + 1) (w4.alloc (.cells #[.int .i64 12, .int .i64 13] 3)).drew)) :=
      num_any W0.heap.size (p2 + 1) (by omega) w4.heap.size 2 2 (fun i => ((12 + i : Nat) : Int)) (by omega) (by omega) _ ((HR4.out.below (below_new w4 _)).below (Below.refl _ _).drew) (by omega) (fun i hi => new_cell w4 _ _ _ _ (by match i, hi with
        | 0, _ => rfl
        | 1, _ => rfl))
    go_wp2_with fail
    go_region_with (first
      | (go_at_call 30; refine HN.out.mono ?_; rintro e w5 ⟨j, hj, he, hr5, hg5⟩
         have HG5 : Hid (w4.grownBy w5 (some W0.heap.size)) := ((grown_of_below (below_new w4 _)).trans (grown_of_below (Below.refl _ _).drew)).trans hg5
         obtain ⟨kk, hkk⟩ : ∃ kk : Nat, kk = 12 + j := ⟨_, rfl⟩
         obtain rfl : e = .returned (.int .i64 (kk : Int)) := by rw [hkk]; exact he
         have HMN : Hid (∀ V, Calls Tryd.prog 29 #[.string ⟨#[97]⟩, .int .i64 (kk : Int)] V fun e w' => ∃ s : ByteArray, e = .returned (.string s) ∧ s.size = kk ∧ w' = V) := fun V => many_any kk (by omega) V
         have hkk13 : kk ≤ 13 := by omega
         obtain ⟨⟨q0, q1, q2⟩, ⟨⟨c0', e0⟩, ⟨c1', e1⟩, ⟨c2', e2⟩, ef⟩⟩ := HCL.out w5 HG5.out
         clear hr5 hg5 he hkk)
      | (go_at_call 29; refine (HMN.out _).mono ?_; rintro e w6 ⟨s, rfl, hs, hw6⟩; subst w6))
    all_goals go_wp2_with fail
    all_goals refine bodyPost_ret (v := .tuple #[.agg #[.int .i64 S.kind, .slice sa sn sc, .slice ka km kc], .string s]) (by simp [results, Tryd.results12, go_sem, e0, e1, e2]) rfl ?_
    all_goals exact HEND.out s w5 (by omega) HG5.out
  · have z0 : (i == 0) = false := by simp; omega
    have HW : Hid (Calls Tryd.prog 31 #[.pointer (some ⟨W0.heap.size, 0, none⟩), .int .i64 6] w4.drew (WordRes 6 W0.heap.size (p2 + 1) w4.drew)) := word_any W0.heap.size (p2 + 1) 6 (by omega) (by omega) w4.drew (HR4.out.below (Below.refl _ _).drew)
    go_wp2_with fail
    go_region_with (first
      | (go_at_call 31; refine HW.out.mono ?_; rintro e w5 ⟨s, p5, rfl, hs, hp5, hr5, hg5⟩
         have HG5 : Hid (w4.grownBy w5 (some W0.heap.size)) := (grown_of_below (Below.refl _ _).drew).trans hg5
         obtain ⟨⟨q0, q1, q2⟩, ⟨⟨c0', e0⟩, ⟨c1', e1⟩, ⟨c2', e2⟩, ef⟩⟩ := HCL.out w5 HG5.out
         clear hr5 hg5))
    all_goals go_wp2_with fail
    all_goals refine bodyPost_ret (v := .tuple #[.agg #[.int .i64 S.kind, .slice sa sn sc, .slice ka km kc], .string s]) (by simp [results, Tryd.results12, go_sem, e0, e1, e2]) rfl ?_
    all_goals exact HEND.out s w5 (by omega) HG5.out
end Go.Proofs.YtkbhljpdneibaaaDoor

