/- The walks of l2Byte and l2Leaf. -/
import Derived.Test.YtkbhljpdneibaaaDoorDf
namespace Go.Proofs.YtkbhljpdneibaaaDoor
open Go.RowKit
set_option linter.unusedVariables false
set_option linter.unusedSimpArgs false

/-- the shape of one without kids -/
def leafS (k : Int) (n : Nat) (L H : Nat → Int) : Sh := .node k n L H 0 (fun i => absurd i.2 (Nat.not_lt_zero _))
def leafM (v : Value) : Mx := .mk v (.slice none 0 0) (fun _ => .no)
theorem leaf_cnt (k : Int) (n : Nat) (L H : Nat → Int) : cnt (leafS k n L H) = n := by simp [leafS, cnt, sumN]
theorem leaf_in {B : Nat → Prop} {w : World} {v : Value} {n : Nat} {L H : Nat → Int} (k : Int) (h : SetIn B w v n L H) (hn : n ≤ 1048576) : In B w (leafS k n L H) (leafM v) := by
  obtain ⟨a, b, off, cap, rfl, h1, h2⟩ := h
  exact ⟨a, b, off, cap, none, 0, 0, 0, rfl, h1, h2, by omega, rfl, fun h => absurd h (Nat.lt_irrefl _), by omega, fun i hi => absurd hi (Nat.not_lt_zero _)⟩
theorem none_in {B : Nat → Prop} (w : World) (k : Int) : In B w (leafS k 0 (fun _ => 0) (fun _ => 0)) (leafM (.slice none 0 0)) :=
  leaf_in k ⟨none, 0, 0, 0, rfl, fun h => absurd h (Nat.lt_irrefl _), fun i hi => absurd hi (Nat.not_lt_zero _)⟩ (by omega)

/-- some Rex is drawn -/
def RexRes (D C rb p : Nat) (w : World) (e : Ending) (w' : World) : Prop := ∃ (S : Sh) (M : Mx) (p' : Nat), e = .returned (vx S M) ∧ In (fun k => w.heap.size ≤ k ∧ Soft w' k) w' S M ∧ cnt S ≤ C ∧ p' ≤ p + D ∧ Rdr w' rb p' ∧ w.grownBy w' (some rb)

theorem soft3 {w : World} {b : Nat} {S : Sh} {M : Mx} {c : Nat} (hc : b < c) (u0 u1 u2 : Value) (h : In (fun k => c ≤ k ∧ Soft w k) w S M) :
    In (fun k => b ≤ k ∧ Soft (((w.setCell ⟨b, 0, none⟩ u0).setCell ⟨b, 1, none⟩ u1).setCell ⟨b, 2, none⟩ u2) k) (((w.setCell ⟨b, 0, none⟩ u0).setCell ⟨b, 1, none⟩ u1).setCell ⟨b, 2, none⟩ u2) S M :=
  (h.keep (fun k hk _ => keep3 w b 0 1 2 u0 u1 u2 (by omega))).mono (fun k hk => ⟨by omega, hk.2.set3⟩)
theorem rdr3 {w : World} {b rb p : Nat} (h : Rdr w rb p) (hb : rb < b) (u0 u1 u2 : Value) : Rdr (((w.setCell ⟨b, 0, none⟩ u0).setCell ⟨b, 1, none⟩ u1).setCell ⟨b, 2, none⟩ u2) rb p := ((h.set hb _ _).set hb _ _).set hb _ _
theorem grown3 {w0 w : World} {b rb : Nat} (h : w0.grownBy w (some rb)) (hb : w0.heap.size ≤ b) (u0 u1 u2 : Value) : w0.grownBy (((w.setCell ⟨b, 0, none⟩ u0).setCell ⟨b, 1, none⟩ u1).setCell ⟨b, 2, none⟩ u2) (some rb) :=
  ⟨h.os, h.tape, h.output, by simpa [World.setCell] using h.size, fun k hk hne => (keep3 w b 0 1 2 u0 u1 u2 (by omega)).trans (h.block k hk hne)⟩

/-- a box of the call's own that holds the answer -/
def Rb (w : World) (b : Nat) : Prop := ∃ x y z : Value, w.heap[b]? = some (.cells #[x, y, z] 26 (0, 0)) ∧ True
theorem Rb.cells {w : World} {b : Nat} (h : Rb w b) : (∃ x, w.cell? ⟨b, 0, none⟩ = some x) ∧ (∃ y, w.cell? ⟨b, 1, none⟩ = some y) ∧ (∃ z, w.cell? ⟨b, 2, none⟩ = some z) ∧ ∀ o, w.frozen? ⟨b, o, none⟩ = false := by
  obtain ⟨x, y, z, h, _⟩ := h
  exact ⟨⟨x, by simp [World.cell?, h]⟩, ⟨y, by simp [World.cell?, h]⟩, ⟨z, by simp [World.cell?, h]⟩, fun o => by simp [World.frozen?, h]⟩
theorem Rb.set3 {w : World} {b : Nat} (h : Rb w b) (u0 u1 u2 : Value) : (((w.setCell ⟨b, 0, none⟩ u0).setCell ⟨b, 1, none⟩ u1).setCell ⟨b, 2, none⟩ u2).heap[b]? = some (.cells #[u0, u1, u2] 26 (0, 0)) := by
  obtain ⟨x, y, z, h, _⟩ := h
  simp [World.setCell, Array.getElem?_modify, h]
theorem box_cells {w : World} {b : Nat} {u0 u1 u2 : Value} (h : w.heap[b]? = some (.cells #[u0, u1, u2] 26 (0, 0))) : w.cell? ⟨b, 0, none⟩ = some u0 ∧ w.cell? ⟨b, 1, none⟩ = some u1 ∧ w.cell? ⟨b, 2, none⟩ = some u2 := by
  simp [World.cell?, h]
theorem Rb.new (w : World) (x y z : Value) : Rb (w.alloc (.cells #[x, y, z] 26)) w.heap.size := ⟨x, y, z, by show (w.heap.push _)[w.heap.size]? = _; simp, trivial⟩
theorem Rb.of_block {w w' : World} {b : Nat} (h : Rb w b) (e : w'.heap[b]? = w.heap[b]?) : Rb w' b := by
  obtain ⟨x, y, z, h, _⟩ := h
  exact ⟨x, y, z, e.trans h, trivial⟩
theorem Rb.lt {w : World} {b : Nat} (h : Rb w b) : b < w.heap.size := by
  obtain ⟨⟨x, h⟩, _⟩ := h.cells
  exact World.block_lt_of_cell? _ _ h

theorem one_set (w : World) (x y : Int) (base : Nat) (hb : base ≤ w.heap.size) : SetIn (fun k => base ≤ k ∧ Soft (w.alloc (.cells #[.int .i64 x, .int .i64 y] 59)) k) (w.alloc (.cells #[.int .i64 x, .int .i64 y] 59)) (.slice (some ⟨w.heap.size, 0, none⟩) 1 1) 1 (fun _ => x) (fun _ => y) :=
  ⟨_, w.heap.size, 0, 1, rfl, fun _ => ⟨rfl, hb, #[.int .i64 x, .int .i64 y], 59, by show (w.heap.push _)[w.heap.size]? = _; simp⟩, fun i hi => by
    obtain rfl : i = 0 := by omega
    exact ⟨new_cell w _ 59 _ _ rfl, new_cell w _ 59 _ _ rfl⟩⟩

set_option maxHeartbeats 1000000 in
theorem l2Byte_any (x : Int) (w : World) : Calls Tryd.prog 58 #[.int .i64 x] w fun e w' => ∃ (S : Sh) (M : Mx), e = .returned (vx S M) ∧ In (fun k => w.heap.size ≤ k ∧ Soft w' k) w' S M ∧ cnt S ≤ 1 ∧ Below w.heap.size w w' := by
  go_enter Tryd.func58, Tryd.ntmps58
  go_wp2_with fail
  refine bodyPost_ret (v := .agg #[.int .i64 1, .slice (some ⟨w.heap.size + 1, 0, none⟩) 1 1, .slice none 0 0]) (by simp [results, Tryd.results58, go_sem]) rfl ⟨leafS 1 1 (fun _ => x) (fun _ => x), leafM (.slice (some ⟨w.heap.size + 1, 0, none⟩) 1 1), rfl, ?_, by rw [leaf_cnt]; omega, ((Below.refl _ _).alloc (Nat.le_refl _) _).alloc (by simp) _⟩
  have h := one_set (w.alloc (.cells #[.int .i64 1, .slice (some ⟨w.heap.size + 1, 0, none⟩) 1 1, .slice none 0 0] 26)) x x w.heap.size (by simp)
  rw [size_new] at h
  exact leaf_in 1 h (by omega)

theorem RexRes.of {D C rb p : Nat} {w w' : World} {S : Sh} {M : Mx} {p' : Nat} (h1 : In (fun k => w.heap.size ≤ k ∧ Soft w' k) w' S M) (h2 : cnt S ≤ C) (h3 : p' ≤ p + D) (h4 : Rdr w' rb p') (h5 : w.grownBy w' (some rb)) : RexRes D C rb p w (.returned (vx S M)) w' := ⟨S, M, p', rfl, h1, h2, h3, h4, h5⟩

set_option maxRecDepth 100000 in
set_option maxHeartbeats 4000000 in
theorem l2Leaf_any (rb p : Nat) (hp : p ≤ 800000) (w : World) (h : Rdr w rb p) : Calls Tryd.prog 54 #[.pointer (some ⟨rb, 0, none⟩)] w (RexRes 9 256 rb p w) := by
  have hrl := h.lt
  obtain ⟨W0, hW0⟩ : ∃ W0, W0 = w.alloc (.cells #[.int .i64 0, .slice none 0 0, .slice none 0 0] 26) := ⟨_, rfl⟩
  have hb0 : Below w.heap.size w W0 := by rw [hW0]; exact below_new _ _
  have hs0 : W0.heap.size = w.heap.size + 1 := by rw [hW0]; exact size_new _ _
  have hrb : Rb W0 w.heap.size := by rw [hW0]; exact Rb.new _ _ _ _
  have HP : Hid (Calls Tryd.prog 28 #[.pointer (some ⟨rb, 0, none⟩), .int .i64 9] W0 (PickRes 9 rb p W0)) := pick_any rb p (by omega) 9 (by omega) (by omega) _ (h.below hb0)
  have HG0 : Hid (w.grownBy W0 (some rb)) := grown_of_below hb0
  have HRB0 : Hid (Rb W0 w.heap.size) := hrb
  have HS0 : Hid (W0.heap.size = w.heap.size + 1) := hs0
  clear hb0 hrb h hs0
  go_enter Tryd.func54, Tryd.ntmps54
  go_wp2_with fail
  rw [← hW0]
  clear hW0
  refine HP.out.mono ?_
  rintro e w1 ⟨i, rfl, ⟨i0, i1, i2⟩, hr, hg⟩
  have i3 : i < 9 := i1 (by omega)
  have HRB1 : Hid (Rb w1 w.heap.size) := HRB0.out.of_block (hg.block _ HRB0.out.lt (by simp; omega))
  have HG1 : Hid (w.grownBy w1 (some rb)) := HG0.out.trans hg
  have HR1 : Hid (Rdr w1 rb (p + 1)) := hr
  have hs1 : w.heap.size < w1.heap.size := HRB1.out.lt
  obtain ⟨⟨b0, c0⟩, ⟨b1, c1⟩, ⟨b2, c2⟩, cf⟩ := HRB1.out.cells
  clear hr hg HP HG0 HRB0 HS0 i1 i2
  have hcase : i = 0 ∨ i = 1 ∨ i = 2 ∨ i = 3 ∨ 4 ≤ i := by omega
  rcases hcase with rfl | rfl | rfl | rfl | h4
  · go_wp2_with fail
    refine bodyPost_ret (v := .agg #[.int .i64 2, .slice none 0 0, .slice none 0 0]) (by simp [results, Tryd.results54, go_sem, c0, c1, c2]) rfl ?_
    exact RexRes.of (S := leafS 2 0 (fun _ => 0) (fun _ => 0)) (M := leafM (.slice none 0 0)) (none_in _ _) (by rw [leaf_cnt]; omega) (p' := p + 1) (by omega) (rdr3 HR1.out (by omega) _ _ _) (grown3 HG1.out (Nat.le_refl _) _ _ _)
  · have e0 : ∀ o, (w1.alloc o).cell? ⟨w.heap.size, 0, none⟩ = some b0 := fun o => ((below_new w1 o).cell (p := ⟨w.heap.size, 0, none⟩) hs1).trans c0
    have e1 : ∀ o, (w1.alloc o).cell? ⟨w.heap.size, 1, none⟩ = some b1 := fun o => ((below_new w1 o).cell (p := ⟨w.heap.size, 1, none⟩) hs1).trans c1
    have e2 : ∀ o, (w1.alloc o).cell? ⟨w.heap.size, 2, none⟩ = some b2 := fun o => ((below_new w1 o).cell (p := ⟨w.heap.size, 2, none⟩) hs1).trans c2
    have ef : ∀ o k, (w1.alloc o).frozen? ⟨w.heap.size, k, none⟩ = false := fun o k => ((below_new w1 o).frozen (p := ⟨w.heap.size, k, none⟩) hs1).trans (cf k)
    have hne : ¬ w.heap.size = w1.heap.size := by omega
    obtain ⟨r0, r1, r2⟩ := box_cells ((below_new _ (.cells #[.int .i64 97, .int .i64 98] 59)).block w.heap.size (by simpa [World.setCell] using hs1) |>.trans (HRB1.out.set3 (.int .i64 1) (.slice (some ⟨w1.heap.size, 0, none⟩) 1 1) (.slice none 0 0)))
    go_wp2_with fail
    refine bodyPost_ret (v := .agg #[.int .i64 1, .slice (some ⟨w1.heap.size, 0, none⟩) 1 1, .slice none 0 0]) (by simp [results, Tryd.results54, go_sem, r0, r1, r2]) rfl ?_
    obtain ⟨W3, hW3⟩ : ∃ W3, W3 = ((w1.setCell ⟨w.heap.size, 0, none⟩ (.int .i64 1)).setCell ⟨w.heap.size, 1, none⟩ (.slice (some ⟨w1.heap.size, 0, none⟩) 1 1)).setCell ⟨w.heap.size, 2, none⟩ (.slice none 0 0) := ⟨_, rfl⟩
    have hz3 : W3.heap.size = w1.heap.size := by rw [hW3]; simp [World.setCell]
    have hr3 : Rdr W3 rb (p + 1) := by rw [hW3]; exact rdr3 HR1.out (by omega) _ _ _
    have hg3 : w.grownBy W3 (some rb) := by rw [hW3]; exact grown3 HG1.out (Nat.le_refl _) _ _ _
    rw [← hW3]
    have hone := one_set W3 97 98 w.heap.size (by omega)
    rw [hz3] at hone
    exact RexRes.of (S := leafS 1 1 (fun _ => 97) (fun _ => 98)) (M := leafM (.slice (some ⟨w1.heap.size, 0, none⟩) 1 1)) (leaf_in 1 hone (by omega)) (by rw [leaf_cnt]; omega) (p' := p + 1) (by omega) (hr3.below (below_new _ _)) (hg3.trans (grown_of_below (below_new _ _)))
  · go_wp2_with fail
    refine (l1Set_any rb (p + 1) (by omega) _ HR1.out).mono ?_
    rintro e w2 ⟨v, n, L, H, p', rfl, hn, hset, hp', hr2, hg2⟩
    have HRB2 : Hid (Rb w2 w.heap.size) := HRB1.out.of_block (hg2.block _ HRB1.out.lt (by simp; omega))
    have HIN : Hid (In (fun k => w1.heap.size ≤ k ∧ Soft w2 k) w2 (leafS 1 n L H) (leafM v)) := leaf_in 1 hset (by omega)
    have HR2 : Hid (Rdr w2 rb p') := hr2
    have HG2 : Hid (w.grownBy w2 (some rb)) := HG1.out.trans hg2
    obtain ⟨sa, sb, soff, scap, rfl, _, _⟩ := hset
    obtain ⟨⟨b0', d0⟩, ⟨b1', d1⟩, ⟨b2', d2⟩, df⟩ := HRB2.out.cells
    clear c0 c1 c2 cf hr2 hg2
    go_wp2_with fail
    refine bodyPost_ret (v := .agg #[.int .i64 1, .slice sa n scap, .slice none 0 0]) (by simp [results, Tryd.results54, go_sem, d0, d1, d2]) rfl ?_
    exact RexRes.of (S := leafS 1 n L H) (M := leafM (.slice sa n scap)) (soft3 hs1 _ _ _ HIN.out) (by rw [leaf_cnt]; omega) (p' := p') (by omega) (rdr3 HR2.out (by omega) _ _ _) (grown3 HG2.out (Nat.le_refl _) _ _ _)
  · go_wp2_with fail
    refine (pick_any rb (p + 1) (by omega) 3 (by omega) (by omega) _ HR1.out).mono ?_
    rintro e w2 ⟨i, rfl, ⟨i0, i1, i2⟩, hr2, hg2⟩
    have i3 : i < 3 := i1 (by omega)
    have HRB2 : Hid (Rb w2 w.heap.size) := HRB1.out.of_block (hg2.block _ HRB1.out.lt (by simp; omega))
    have HG2 : Hid (w.grownBy w2 (some rb)) := HG1.out.trans hg2
    have HR2 : Hid (Rdr w2 rb (p + 2)) := hr2
    obtain ⟨⟨b0', d0⟩, ⟨b1', d1⟩, ⟨b2', d2⟩, df⟩ := HRB2.out.cells
    clear c0 c1 c2 cf hr2 hg2 i1 i2
    have hcase : i = 0 ∨ 1 ≤ i := by omega
    rcases hcase with rfl | h1
    · go_wp2_with fail
      refine bodyPost_ret (v := .agg #[.int .i64 1, .slice none 0 0, .slice none 0 0]) (by simp [results, Tryd.results54, go_sem, d0, d1, d2]) rfl ?_
      exact RexRes.of (S := leafS 1 0 (fun _ => 0) (fun _ => 0)) (M := leafM (.slice none 0 0)) (none_in _ _) (by rw [leaf_cnt]; omega) (p' := p + 2) (by omega) (rdr3 HR2.out (by omega) _ _ _) (grown3 HG2.out (Nat.le_refl _) _ _ _)
    · have z0 : (i == 0) = false := by simp; omega
      obtain ⟨c0, c1, c2, cf⟩ : True ∧ True ∧ True ∧ True := ⟨trivial, trivial, trivial, trivial⟩
      clear d0 d1 d2 df
      go_wp2_with fail
      refine (pick_any rb (p + 2) (by omega) 3 (by omega) (by omega) _ HR2.out).mono ?_
      rintro e w5 ⟨j, rfl, ⟨j0, j1, j2⟩, hr5, hg5⟩
      have j3 : j < 3 := j1 (by omega)
      have HRB5 : Hid (Rb w5 w.heap.size) := HRB2.out.of_block (hg5.block _ HRB2.out.lt (by simp; omega))
      have HG5 : Hid (w.grownBy w5 (some rb)) := HG2.out.trans hg5
      have HR5 : Hid (Rdr w5 rb (p + 2 + 1)) := hr5
      clear hr5 hg5 j1 j2
      go_wp2_with fail
      refine (l2Byte_any (97 + j) _).mono ?_
      rintro e w6 ⟨S, M, rfl, hin6, hc6, hb6⟩
      have HIN6 : Hid (In (fun k => w5.heap.size ≤ k ∧ Soft w6 k) w6 S M) := hin6
      have HRB6 : Hid (Rb w6 w.heap.size) := HRB5.out.of_block (hb6.block _ HRB5.out.lt)
      have HG6 : Hid (w.grownBy w6 (some rb)) := HG5.out.trans (grown_of_below hb6)
      have HR6 : Hid (Rdr w6 rb (p + 2 + 1)) := HR5.out.below hb6
      have hs5 : w.heap.size < w5.heap.size := HRB5.out.lt
      obtain ⟨sa, sn, sc, ka, km, kc, es, ek⟩ := hin6.slices
      have HV6 : Hid (vx S M = .agg #[.int .i64 S.kind, .slice sa sn sc, .slice ka km kc]) := by rw [Hid, vx, es, ek]
      rw [HV6.out]
      obtain ⟨⟨b0', d0⟩, ⟨b1', d1⟩, ⟨b2', d2⟩, df⟩ := HRB6.out.cells
      clear hin6 hb6 es ek c0 c1 c2 cf
      go_wp2_with fail
      refine bodyPost_ret (v := .agg #[.int .i64 S.kind, .slice sa sn sc, .slice ka km kc]) (by simp [results, Tryd.results54, go_sem, d0, d1, d2]) rfl ?_
      rw [← HV6.out]
      exact RexRes.of (soft3 hs5 _ _ _ HIN6.out) (by omega) (p' := p + 2 + 1) (by omega) (rdr3 HR6.out (by omega) _ _ _) (grown3 HG6.out (Nat.le_refl _) _ _ _)
  · have z0 : (i == 0) = false := by simp; omega
    have z1 : (i == 1) = false := by simp; omega
    have z2 : (i == 2) = false := by simp; omega
    have z3 : (i == 3) = false := by simp; omega
    go_wp2_with fail
    refine (pick_any rb (p + 1) (by omega) 3 (by omega) (by omega) _ HR1.out).mono ?_
    rintro e w5 ⟨j, rfl, ⟨j0, j1, j2⟩, hr5, hg5⟩
    have j3 : j < 3 := j1 (by omega)
    have HRB5 : Hid (Rb w5 w.heap.size) := HRB1.out.of_block (hg5.block _ HRB1.out.lt (by simp; omega))
    have HG5 : Hid (w.grownBy w5 (some rb)) := HG1.out.trans hg5
    have HR5 : Hid (Rdr w5 rb (p + 1 + 1)) := hr5
    clear hr5 hg5 j1 j2
    go_wp2_with fail
    refine (l2Byte_any (97 + j) _).mono ?_
    rintro e w6 ⟨S, M, rfl, hin6, hc6, hb6⟩
    have HIN6 : Hid (In (fun k => w5.heap.size ≤ k ∧ Soft w6 k) w6 S M) := hin6
    have HRB6 : Hid (Rb w6 w.heap.size) := HRB5.out.of_block (hb6.block _ HRB5.out.lt)
    have HG6 : Hid (w.grownBy w6 (some rb)) := HG5.out.trans (grown_of_below hb6)
    have HR6 : Hid (Rdr w6 rb (p + 1 + 1)) := HR5.out.below hb6
    have hs5 : w.heap.size < w5.heap.size := HRB5.out.lt
    obtain ⟨sa, sn, sc, ka, km, kc, es, ek⟩ := hin6.slices
    have HV6 : Hid (vx S M = .agg #[.int .i64 S.kind, .slice sa sn sc, .slice ka km kc]) := by rw [Hid, vx, es, ek]
    rw [HV6.out]
    obtain ⟨⟨b0', d0⟩, ⟨b1', d1⟩, ⟨b2', d2⟩, df⟩ := HRB6.out.cells
    clear hin6 hb6 es ek c0 c1 c2 cf
    go_wp2_with fail
    refine bodyPost_ret (v := .agg #[.int .i64 S.kind, .slice sa sn sc, .slice ka km kc]) (by simp [results, Tryd.results54, go_sem, d0, d1, d2]) rfl ?_
    rw [← HV6.out]
    exact RexRes.of (soft3 hs5 _ _ _ HIN6.out) (by omega) (p' := p + 1 + 1) (by omega) (rdr3 HR6.out (by omega) _ _ _) (grown3 HG6.out (Nat.le_refl _) _ _ _)
end Go.Proofs.YtkbhljpdneibaaaDoor

