/- The walk of l2Bent. -/
import Derived.Test.YtkbhljpdneibaaaDoorDn
namespace Go.Proofs.YtkbhljpdneibaaaDoor
open Go.RowKit
set_option linter.unusedVariables false
set_option linter.unusedSimpArgs false

theorem node_inB {B : Nat → Prop} {w : World} {g cap : Nat} {ks : List (Sh × Mx)} (k : Int) (hc : ∀ i v, (encK ks)[i]? = some v → w.cell? ⟨g, i, none⟩ = some v) (hB : B g) (hk : ∀ p ∈ ks, In B w p.1 p.2) (hl : ks.length ≤ 2097152) : In B w (nodeS k ks) (nodeM (.slice (some ⟨g, 0, none⟩) ks.length cap) ks) := by
  refine ⟨none, 0, 0, 0, some ⟨g, 0, none⟩, g, 0, cap, rfl, fun h => absurd h (Nat.lt_irrefl _), fun i hi => absurd hi (Nat.not_lt_zero _), by omega, rfl, fun _ => ⟨rfl, hB⟩, by omega, fun i hi => ?_⟩
  obtain ⟨p, hp⟩ : ∃ p, ks[i]? = some p := ⟨ks[i], List.getElem?_eq_getElem hi⟩
  obtain ⟨c0, c1, c2⟩ := encK_at hp
  have e : (nodeM (.slice (some ⟨g, 0, none⟩) ks.length cap) ks).kid i = p.2 := by show ((ks[i]?).getD _).2 = _; rw [hp]; rfl
  have e' : ((ks[i]?).getD (leafS 0 0 (fun _ => 0) (fun _ => 0), Mx.no)).1 = p.1 := by rw [hp]; rfl
  rw [e]
  show Kid w g (0 + i * 3) ((ks[i]?).getD _).1 p.2 ∧ In _ w ((ks[i]?).getD _).1 p.2
  rw [e']
  refine ⟨⟨?_, ?_, ?_⟩, hk p (List.mem_of_getElem? hp)⟩
  · rw [Nat.zero_add]; exact hc _ _ c0
  · rw [Nat.zero_add]; exact hc _ _ c1
  · rw [Nat.zero_add]; exact hc _ _ c2

/-- the box bx holds that Rex, which lies elsewhere, from lo on -/
structure Xb (w : World) (lo bx : Nat) (S : Sh) (M : Mx) (sa : Option Addr) (sn sc : Nat) (ka : Option Addr) (km kc : Nat) : Prop where
  box : w.heap[bx]? = some (.cells #[.int .i64 S.kind, .slice sa sn sc, .slice ka km kc] 26 (0, 0))
  es : M.sv = .slice sa sn sc
  ek : M.kv = .slice ka km kc
  tree : In (fun k => (lo ≤ k ∧ Soft w k) ∧ k ≠ bx) w S M
theorem Xb.lt {w : World} {lo bx : Nat} {S : Sh} {M : Mx} {sa : Option Addr} {sn sc : Nat} {ka : Option Addr} {km kc : Nat} (h : Xb w lo bx S M sa sn sc ka km kc) : bx < w.heap.size := by
  rcases Nat.lt_or_ge bx w.heap.size with h' | h'
  · exact h'
  · exact absurd h.box (by simp [Array.getElem?_eq_none h'])
theorem In.xkeep {w w' : World} {lo bx : Nat} {S : Sh} {M : Mx} (h : In (fun k => (lo ≤ k ∧ Soft w k) ∧ k ≠ bx) w S M) (hk : ∀ k, lo ≤ k → k ≠ bx → k < w.heap.size → w'.heap[k]? = w.heap[k]?) : In (fun k => (lo ≤ k ∧ Soft w' k) ∧ k ≠ bx) w' S M :=
  (h.keep (fun k hB hlt => hk k hB.1.1 hB.2 hlt)).mono (fun k hB => ⟨⟨hB.1.1, hB.1.2.of_block (hk k hB.1.1 hB.2 hB.1.2.lt)⟩, hB.2⟩)
theorem Xb.keep {w w' : World} {lo bx : Nat} {S : Sh} {M : Mx} {sa : Option Addr} {sn sc : Nat} {ka : Option Addr} {km kc : Nat} (h : Xb w lo bx S M sa sn sc ka km kc) (hlo : lo ≤ bx) (hk : ∀ k, lo ≤ k → k < w.heap.size → w'.heap[k]? = w.heap[k]?) : Xb w' lo bx S M sa sn sc ka km kc :=
  ⟨(hk bx hlo h.lt).trans h.box, h.es, h.ek, h.tree.xkeep (fun k h1 _ h2 => hk k h1 h2)⟩
theorem Xb.value {w : World} {lo bx : Nat} {S : Sh} {M : Mx} {sa : Option Addr} {sn sc : Nat} {ka : Option Addr} {km kc : Nat} (h : Xb w lo bx S M sa sn sc ka km kc) : vx S M = .agg #[.int .i64 S.kind, .slice sa sn sc, .slice ka km kc] := by rw [vx, h.es, h.ek]
theorem heap3 (V : World) (bx : Nat) (u0 u1 u2 : Value) {k : Nat} (hn : k ≠ bx) : (((V.setCell ⟨bx, 0, none⟩ u0).setCell ⟨bx, 1, none⟩ u1).setCell ⟨bx, 2, none⟩ u2).heap[k]? = V.heap[k]? :=
  (Below.heap_setCell _ _ _ _ (by simpa using hn)).trans ((Below.heap_setCell _ _ _ _ (by simpa using hn)).trans (Below.heap_setCell _ _ _ _ (by simpa using hn)))
theorem size3 (V : World) (bx : Nat) (u0 u1 u2 : Value) : (((V.setCell ⟨bx, 0, none⟩ u0).setCell ⟨bx, 1, none⟩ u1).setCell ⟨bx, 2, none⟩ u2).heap.size = V.heap.size := by simp [World.setCell]
theorem al1 (w : World) (o : Obj) {b : Nat} (i : Nat) (v : Value) (hb : b < w.heap.size) : (w.setCell ⟨b, i, none⟩ v).alloc o = (w.alloc o).setCell ⟨b, i, none⟩ v := (World.setCell_alloc_past o b i v hb).symm
theorem al3 (V : World) (o : Obj) {bx : Nat} (u0 u1 u2 : Value) (hb : bx < V.heap.size) : (((V.setCell ⟨bx, 0, none⟩ u0).setCell ⟨bx, 1, none⟩ u1).setCell ⟨bx, 2, none⟩ u2).alloc o = (((V.alloc o).setCell ⟨bx, 0, none⟩ u0).setCell ⟨bx, 1, none⟩ u1).setCell ⟨bx, 2, none⟩ u2 := by
  rw [al1 _ _ _ _ (by simpa using hb), al1 _ _ _ _ (by simpa using hb), al1 _ _ _ _ hb]
/-- a part put around it, into its box -/
theorem Xb.node {w : World} {lo bx : Nat} (hr : Rb w bx) (hlo : lo ≤ bx) (k : Int) (ks : List (Sh × Mx)) (cs : Array Value) (hcs : cs.toList = encK ks) (hk : ∀ p ∈ ks, In (fun k => (lo ≤ k ∧ Soft w k) ∧ k ≠ bx) w p.1 p.2) (n : Nat) (hn : ks.length = n) (hl : n ≤ 2) :
    Xb ((((w.alloc (.cells cs 26)).setCell ⟨bx, 0, none⟩ (.int .i64 k)).setCell ⟨bx, 1, none⟩ (.slice none 0 0)).setCell ⟨bx, 2, none⟩ (.slice (some ⟨w.heap.size, 0, none⟩) n n)) lo bx (nodeS k ks) (nodeM (.slice (some ⟨w.heap.size, 0, none⟩) n n) ks) none 0 0 (some ⟨w.heap.size, 0, none⟩) n n := by
  subst hn
  have hlt := hr.lt
  have hB := below_new w (.cells cs 26)
  have hr1 : Rb (w.alloc (.cells cs 26)) bx := hr.of_block (hB.block _ hlt)
  have hb : (w.alloc (.cells cs 26)).heap[w.heap.size]? = some (.cells cs 26) := by show (w.heap.push _)[w.heap.size]? = _; simp
  have hne : w.heap.size ≠ bx := by omega
  have hin : In (fun k => (lo ≤ k ∧ Soft (w.alloc (.cells cs 26)) k) ∧ k ≠ bx) (w.alloc (.cells cs 26)) (nodeS k ks) (nodeM (.slice (some ⟨w.heap.size, 0, none⟩) ks.length ks.length) ks) := by
    refine node_inB k (fun i v hi => ?_) ⟨⟨by omega, cs, _, hb⟩, hne⟩ (fun p hp => ?_) (by omega)
    · refine new_cell _ _ _ _ _ ?_
      rw [← hcs] at hi
      simpa using hi
    · exact ((hk p hp).below hB).mono (fun k hB' => ⟨⟨hB'.1.1, hB'.1.2.below hB⟩, hB'.2⟩)
  exact ⟨hr1.set3 _ _ _, rfl, rfl, hin.xkeep (fun k _ h2 _ => heap3 _ _ _ _ _ h2)⟩
/-- another kind -/
theorem Xb.kinded {w : World} {lo bx : Nat} {S : Sh} {M : Mx} {sa : Option Addr} {sn sc : Nat} {ka : Option Addr} {km kc : Nat} (h : Xb w lo bx S M sa sn sc ka km kc) (k : Int) : Xb (w.setCell ⟨bx, 0, none⟩ (.int .i64 k)) lo bx { S with kind := k } M sa sn sc ka km kc := by
  refine ⟨by simp [World.setCell, Array.getElem?_modify, h.box], h.es, h.ek, ?_⟩
  have hin := h.tree.xkeep (w' := w.setCell ⟨bx, 0, none⟩ (.int .i64 k)) (fun k _ h2 _ => Below.heap_setCell _ _ _ _ (by simpa using h2))
  obtain ⟨kind, n, L, H, m, K⟩ := S
  exact hin
theorem cnt_kinded (S : Sh) (k : Int) : cnt { S with kind := k } = cnt S := by
  obtain ⟨kind, n, L, H, m, K⟩ := S
  rfl
/-- another set -/
theorem Xb.setd {w : World} {lo bx : Nat} {S : Sh} {M : Mx} {sa : Option Addr} {sn sc : Nat} {ka : Option Addr} {km kc : Nat} (h : Xb w lo bx S M sa sn sc ka km kc) (hlo : lo ≤ bx) (x y : Int) :
    Xb ((w.alloc (.cells #[.int .i64 x, .int .i64 y] 59)).setCell ⟨bx, 1, none⟩ (.slice (some ⟨w.heap.size, 0, none⟩) 1 1)) lo bx { S with n := 1, L := fun _ => x, H := fun _ => y } (Mx.mk (.slice (some ⟨w.heap.size, 0, none⟩) 1 1) M.kv M.kid) (some ⟨w.heap.size, 0, none⟩) 1 1 ka km kc := by
  have hlt := h.lt
  have hB := below_new w (.cells #[.int .i64 x, .int .i64 y] 59)
  have hb : (w.alloc (.cells #[.int .i64 x, .int .i64 y] 59)).heap[w.heap.size]? = some (.cells #[.int .i64 x, .int .i64 y] 59) := by show (w.heap.push _)[w.heap.size]? = _; simp
  have hne : w.heap.size ≠ bx := by omega
  have hbx := (hB.block _ hlt).trans h.box
  have hk : ∀ k, k ≠ bx → ((w.alloc (.cells #[.int .i64 x, .int .i64 y] 59)).setCell ⟨bx, 1, none⟩ (.slice (some ⟨w.heap.size, 0, none⟩) 1 1)).heap[k]? = (w.alloc (.cells #[.int .i64 x, .int .i64 y] 59)).heap[k]? := fun k h2 => Below.heap_setCell _ _ _ _ (by simpa using h2)
  have hin := h.tree.xkeep (w' := (w.alloc (.cells #[.int .i64 x, .int .i64 y] 59)).setCell ⟨bx, 1, none⟩ (.slice (some ⟨w.heap.size, 0, none⟩) 1 1)) (fun k _ h2 h3 => (hk k h2).trans (hB.block k h3))
  refine ⟨by simp [World.setCell, Array.getElem?_modify, hbx], rfl, h.ek, ?_⟩
  have hg := (hk _ hne).trans hb
  obtain ⟨kind, n, L, H, m, K⟩ := S
  obtain ⟨a, b, off, cap, a', b', off', cap', e1, h1, h2, h3, e2, h4, h5, h6⟩ := hin
  refine ⟨some ⟨w.heap.size, 0, none⟩, w.heap.size, 0, 1, a', b', off', cap', rfl, fun _ => ⟨rfl, ⟨by omega, _, _, hg⟩, hne⟩, fun i hi => ?_, by omega, e2, h4, h5, h6⟩
  obtain rfl : i = 0 := by omega
  exact ⟨(World.cell?_of_block (w := w.alloc (.cells #[.int .i64 x, .int .i64 y] 59)) (a := ⟨w.heap.size, _, none⟩) (hk _ hne)).trans (new_cell _ _ _ 0 _ rfl), (World.cell?_of_block (w := w.alloc (.cells #[.int .i64 x, .int .i64 y] 59)) (a := ⟨w.heap.size, _, none⟩) (hk _ hne)).trans (new_cell _ _ _ 1 _ rfl)⟩
theorem cnt_setd (S : Sh) (L H : Nat → Int) : cnt { S with n := 1, L := L, H := H } ≤ cnt S + 1 := by
  obtain ⟨kind, n, L, H, m, K⟩ := S
  simp only [cnt]
  omega
/-- the end: what the box holds is answered -/
theorem Xb.res {D C rb p p' : Nat} {w wr : World} {lo bx : Nat} {S : Sh} {M : Mx} {sa : Option Addr} {sn sc : Nat} {ka : Option Addr} {km kc : Nat} (h : Xb wr lo bx S M sa sn sc ka km kc) (hlo : w.heap.size < lo) (hc : cnt S ≤ C) (hp : p' ≤ p + D) (hr : Rdr wr rb p') (hrb : rb < w.heap.size) (hg : w.grownBy wr (some rb)) :
    RexRes D C rb p w (.returned (.agg #[.int .i64 S.kind, .slice sa sn sc, .slice ka km kc])) (((wr.setCell ⟨w.heap.size, 0, none⟩ (.int .i64 S.kind)).setCell ⟨w.heap.size, 1, none⟩ (.slice sa sn sc)).setCell ⟨w.heap.size, 2, none⟩ (.slice ka km kc)) := by
  rw [← h.value]
  exact RexRes.of (soft3 hlo _ _ _ (h.tree.mono (fun k hk => hk.1))) hc hp (rdr3 hr hrb _ _ _) (grown3 hg (Nat.le_refl _) _ _ _)

/-- the four kinds of a bent one -/
def kind4 (i : Nat) : Int := ([0, 8, 3, 5] : List Int).getD i 0
theorem kind4_at : ∀ i, i < 4 → (#[.int .i64 0, .int .i64 8, .int .i64 3, .int .i64 5] : Array Value)[i]? = some (.int .i64 (kind4 i)) := fun i hi => match i, hi with
  | 0, _ => rfl
  | 1, _ => rfl
  | 2, _ => rfl
  | 3, _ => rfl

set_option maxRecDepth 100000 in
set_option maxHeartbeats 8000000 in
theorem l2Bent_any (rb p : Nat) (hp : p ≤ 500000) (w : World) (h : Rdr w rb p) : Calls Tryd.prog 20 #[.pointer (some ⟨rb, 0, none⟩)] w (RexRes 480 256100 rb p w) := by
  have hrl := h.lt
  obtain ⟨W0, hW0⟩ : ∃ W0, W0 = w.alloc (.cells #[.int .i64 0, .slice none 0 0, .slice none 0 0] 26) := ⟨_, rfl⟩
  have hb0 : Below w.heap.size w W0 := by rw [hW0]; exact below_new _ _
  have hs0 : W0.heap.size = w.heap.size + 1 := by rw [hW0]; exact size_new _ _
  have HRB0 : Hid (Rb W0 w.heap.size) := by rw [Hid, hW0]; exact Rb.new _ _ _ _
  have HG0 : Hid (w.grownBy W0 (some rb)) := grown_of_below hb0
  have HR0 : Hid (Rdr W0 rb p) := h.below hb0
  clear hb0 h
  go_enter Tryd.func20, Tryd.ntmps20
  go_wp2_with fail
  rw [← hW0]
  clear hW0
  refine (l2Some_any rb p (by omega) _ HR0.out).mono ?_
  rintro e w2 ⟨S, M, p2, rfl, hin2, hc2, hp2, hr2, hg2⟩
  obtain ⟨sa, sn, sc, ka, km, kc, es, ek⟩ := hin2.slices
  have HV : Hid (vx S M = .agg #[.int .i64 S.kind, .slice sa sn sc, .slice ka km kc]) := by rw [Hid, vx, es, ek]
  obtain ⟨W3, hW3⟩ : ∃ W3, W3 = w2.alloc (.cells #[.int .i64 S.kind, .slice sa sn sc, .slice ka km kc] 26) := ⟨_, rfl⟩
  have hb3 : Below w2.heap.size w2 W3 := by rw [hW3]; exact below_new _ _
  have hbx3 : W3.heap[w2.heap.size]? = some (.cells #[.int .i64 S.kind, .slice sa sn sc, .slice ka km kc] 26 (0, 0)) := by rw [hW3]; show (w2.heap.push _)[w2.heap.size]? = _; simp
  have hs2 : W0.heap.size ≤ w2.heap.size := hg2.size
  have HXB : Hid (Xb W3 W0.heap.size w2.heap.size S M sa sn sc ka km kc) := ⟨hbx3, es, ek, (hin2.below hb3).mono (fun k hk => ⟨⟨hk.1, hk.2.below hb3⟩, by have := hk.2.lt; omega⟩)⟩
  have HR3 : Hid (Rdr W3 rb p2) := hr2.below hb3
  have HG3 : Hid (w.grownBy W3 (some rb)) := (HG0.out.trans hg2).trans (grown_of_below hb3)
  have HRB3 : Hid (Rb W3 w.heap.size) := (HRB0.out.of_block (hg2.block _ HRB0.out.lt (by simp; omega))).of_block (hb3.block _ (by omega))
  rw [HV.out]
  clear es ek hin2 hr2 hg2 hb3 hbx3 HG0 HRB0 HR0 HV
  go_wp2_with fail
  rw [← hW3]
  clear hW3
  refine (pick_any rb p2 (by omega) 48 (by omega) (by omega) _ HR3.out).mono ?_
  rintro e w4 ⟨i, rfl, ⟨i0, i1, i2⟩, hr4, hg4⟩
  have i3 : i < 48 := i1 (by omega)
  have HXB4 : Hid (Xb w4 W0.heap.size w2.heap.size S M sa sn sc ka km kc) := HXB.out.keep hs2 (fun k h1 h2 => hg4.block k h2 (by simp; omega))
  have HR4 : Hid (Rdr w4 rb (p2 + 1)) := hr4
  have HG4 : Hid (w.grownBy w4 (some rb)) := HG3.out.trans hg4
  have HRB4 : Hid (Rb w4 w.heap.size) := HRB3.out.of_block (hg4.block _ HRB3.out.lt (by simp; omega))
  have hbx4 : w2.heap.size < w4.heap.size := HXB4.out.lt
  clear hr4 hg4 HXB HR3 HG3 HRB3 i1 i2
  have hcase : i = 0 ∨ i = 1 ∨ i = 2 ∨ i = 3 ∨ 4 ≤ i := by omega
  rcases hcase with rfl | rfl | rfl | rfl | hi4
  · have hrl4 := HR4.out.lt
    have HN : Hid (Calls Tryd.prog 30 #[.pointer (some ⟨rb, 0, none⟩), .slice (some ⟨w4.heap.size, 0, none⟩) 4 4] (w4.alloc (.cells #[.int .i64 0, .int .i64 8, .int .i64 3, .int .i64 5] 3)) (OneRes (fun i => .int .i64 (kind4 i)) 4 rb (p2 + 1) (w4.alloc (.cells #[.int .i64 0, .int .i64 8, .int .i64 3, .int .i64 5] 3)))) :=
      num_any rb (p2 + 1) (by omega) w4.heap.size 4 4 kind4 (by omega) (by omega) _ (HR4.out.below (below_new _ _)) (by omega) (fun i hi => new_cell _ _ _ _ _ (kind4_at i hi))
    go_wp2_with fail
    refine HN.out.mono ?_
    rintro e w5 ⟨j, hj, rfl, hr5, hg5⟩
    obtain ⟨kind, hkind⟩ : ∃ kind, kind = kind4 j := ⟨_, rfl⟩
    simp only [← hkind]
    clear hkind HN
    have HXB5 : Hid (Xb w5 W0.heap.size w2.heap.size S M sa sn sc ka km kc) := (HXB4.out.keep hs2 (fun k h1 h2 => (below_new w4 _).block k h2)).keep hs2 (fun k h1 h2 => hg5.block k h2 (by simp; omega))
    have HRB5 : Hid (Rb w5 w.heap.size) := (HRB4.out.of_block ((below_new w4 _).block _ HRB4.out.lt)).of_block (hg5.block _ (by rw [size_new]; omega) (by simp; omega))
    have HG5 : Hid (w.grownBy w5 (some rb)) := (HG4.out.trans (grown_of_below (below_new _ _))).trans hg5
    have HR5 : Hid (Rdr w5 rb (p2 + 1 + 1)) := hr5
    obtain ⟨_, f0, f1, f2, ff⟩ := boxed HXB5.out.box
    obtain ⟨⟨b0', d0⟩, ⟨b1', d1⟩, ⟨b2', d2⟩, df⟩ := HRB5.out.cells
    have hne : w.heap.size ≠ w2.heap.size := by omega
    have hne' : w2.heap.size ≠ w.heap.size := by omega
    clear hr5 hg5 HXB4 HR4 HG4 HRB4
    go_wp2_with fail
    refine bodyPost_ret (v := .agg #[.int .i64 kind, .slice sa sn sc, .slice ka km kc]) (by simp [results, Tryd.results20, go_sem, d0, d1, d2, hne, hne']) rfl ?_
    exact Xb.res (HXB5.out.kinded kind) (by omega) (by rw [cnt_kinded]; omega) (p' := p2 + 1 + 1) (by omega) (HR5.out.set (by omega) _ _) (by omega) ⟨HG5.out.os, HG5.out.tape, HG5.out.output, by simpa [World.setCell] using HG5.out.size, fun k hk hn => (Below.heap_setCell _ _ _ _ (by simp; omega)).trans (HG5.out.block k hk hn)⟩
  · obtain ⟨_, f0, f1, f2, ff⟩ := boxed HXB4.out.box
    obtain ⟨⟨b0', d0⟩, ⟨b1', d1⟩, ⟨b2', d2⟩, df⟩ := HRB4.out.cells
    have hne : w.heap.size ≠ w2.heap.size := by omega
    have hne' : w2.heap.size ≠ w.heap.size := by omega
    have hlw : w.heap.size < w4.heap.size := by omega
    go_wp2_with fail
    refine bodyPost_ret (v := .agg #[.int .i64 S.kind, .slice (some ⟨w4.heap.size, 0, none⟩) 1 1, .slice ka km kc]) (by simp [results, Tryd.results20, go_sem, d0, d1, d2, hne, hne', hlw]) rfl ?_
    rw [al3 _ _ _ _ _ (by simp; omega), al1 _ _ _ _ hbx4]
    exact Xb.res (S := { S with n := 1, L := fun _ => 5, H := fun _ => 4 }) (HXB4.out.setd hs2 5 4) (by omega) (Nat.le_trans (cnt_setd S (fun _ => 5) (fun _ => 4)) (Nat.le_trans (Nat.add_le_add_right hc2 1) (by decide))) (p' := p2 + 1) (by omega) ((HR4.out.below (below_new _ _)).set (by omega) _ _) (by omega) ⟨HG4.out.os, HG4.out.tape, HG4.out.output, by have := HG4.out.size; simp [World.setCell]; omega, fun k hk hn => (Below.heap_setCell _ _ _ _ (by simp; omega)).trans (((below_new w4 _).block k (by omega)).trans (HG4.out.block k hk hn))⟩
  · go_wp2_with fail
    go_loopg [4] 9 (fun gk ix wr => ∃ (S : Sh) (M : Mx) (sa : Option Addr) (sn sc : Nat) (ka : Option Addr) (km kc : Nat), ix = .int .i64 (9 - (gk : Int)) ∧ gk ≤ 9 ∧ cnt S + gk ≤ 8009 ∧ Xb wr W0.heap.size w2.heap.size S M sa sn sc ka km kc ∧ Rdr wr rb (p2 + 1) ∧ w.grownBy wr (some rb) ∧ Rb wr w.heap.size)
    case atStart => exact ⟨S, M, sa, sn, sc, ka, km, kc, rfl, by omega, by omega, HXB4.out, HR4.out, HG4.out, HRB4.out⟩
    case round =>
      clear HXB4 HR4 HG4 HRB4 hc2
      obtain ⟨S5, M5, sa5, sn5, sc5, ka5, km5, kc5, rfl, hg9, hc5, hx5, hr5, hg5, hrb5⟩ := hrel
      have HXB5 : Hid (Xb wr W0.heap.size w2.heap.size S5 M5 sa5 sn5 sc5 ka5 km5 kc5) := hx5
      have HR5 : Hid (Rdr wr rb (p2 + 1)) := hr5
      have HG5 : Hid (w.grownBy wr (some rb)) := hg5
      have HRB5 : Hid (Rb wr w.heap.size) := hrb5
      have hlx : w2.heap.size < wr.heap.size := hx5.lt
      obtain ⟨_, f0, f1, f2, ff⟩ := boxed hx5.box
      clear hx5 hr5 hg5
      cases gk with
      | zero =>
        obtain ⟨⟨b0', d0⟩, ⟨b1', d1⟩, ⟨b2', d2⟩, df⟩ := hrb5.cells
        clear hrb5
        go_wp2_with fail
        refine bodyPost_ret (v := .agg #[.int .i64 S5.kind, .slice sa5 sn5 sc5, .slice ka5 km5 kc5]) (by simp [results, Tryd.results20, go_sem, d0, d1, d2]) rfl ?_
        exact Xb.res HXB5.out (by omega) (by omega) (p' := p2 + 1) (by omega) HR5.out (by omega) HG5.out
      | succ k =>
        have hz : (9 - ((k + 1 : Nat) : Int)) < 9 := by omega
        have hz0 : (0 : Int) ≤ 9 - ((k + 1 : Nat) : Int) := by omega
        have HNEW : Hid (Xb ((((wr.setCell ⟨w2.heap.size, 0, none⟩ (.int .i64 5)).setCell ⟨w2.heap.size, 1, none⟩ (.slice none 0 0)).setCell ⟨w2.heap.size, 2, none⟩ (.slice (some ⟨wr.heap.size, 0, none⟩) 1 1)).alloc (.cells #[.int .i64 S5.kind, .slice sa5 sn5 sc5, .slice ka5 km5 kc5] 26)) W0.heap.size w2.heap.size (nodeS 5 [(S5, M5)]) (nodeM (.slice (some ⟨wr.heap.size, 0, none⟩) 1 1) [(S5, M5)]) none 0 0 (some ⟨wr.heap.size, 0, none⟩) 1 1 ∧ Rdr ((((wr.setCell ⟨w2.heap.size, 0, none⟩ (.int .i64 5)).setCell ⟨w2.heap.size, 1, none⟩ (.slice none 0 0)).setCell ⟨w2.heap.size, 2, none⟩ (.slice (some ⟨wr.heap.size, 0, none⟩) 1 1)).alloc (.cells #[.int .i64 S5.kind, .slice sa5 sn5 sc5, .slice ka5 km5 kc5] 26)) rb (p2 + 1) ∧ w.grownBy ((((wr.setCell ⟨w2.heap.size, 0, none⟩ (.int .i64 5)).setCell ⟨w2.heap.size, 1, none⟩ (.slice none 0 0)).setCell ⟨w2.heap.size, 2, none⟩ (.slice (some ⟨wr.heap.size, 0, none⟩) 1 1)).alloc (.cells #[.int .i64 S5.kind, .slice sa5 sn5 sc5, .slice ka5 km5 kc5] 26)) (some rb) ∧ Rb ((((wr.setCell ⟨w2.heap.size, 0, none⟩ (.int .i64 5)).setCell ⟨w2.heap.size, 1, none⟩ (.slice none 0 0)).setCell ⟨w2.heap.size, 2, none⟩ (.slice (some ⟨wr.heap.size, 0, none⟩) 1 1)).alloc (.cells #[.int .i64 S5.kind, .slice sa5 sn5 sc5, .slice ka5 km5 kc5] 26)) w.heap.size) := by
          have hb := below_new wr (.cells #[.int .i64 S5.kind, .slice sa5 sn5 sc5, .slice ka5 km5 kc5] 26)
          rw [al3 _ _ _ _ _ hlx]
          refine ⟨Xb.node ⟨_, _, _, HXB5.out.box, trivial⟩ hs2 5 [(S5, M5)] _ (by simp [encK, enc3, HXB5.out.es, HXB5.out.ek]) (fun q hq => ?_) 1 rfl (by omega), ?_, ?_, ?_⟩
          · have hq1 : q = (S5, M5) := List.mem_singleton.1 hq
            subst hq1
            exact HXB5.out.tree
          · exact rdr3 (HR5.out.below hb) (by omega) _ _ _
          · exact ⟨HG5.out.os, HG5.out.tape, HG5.out.output, by rw [size3, size_new]; have := HG5.out.size; omega, fun j hj hn => (heap3 _ _ _ _ _ (by omega)).trans ((hb.block j (by omega)).trans (HG5.out.block j hj hn))⟩
          · exact HRB5.out.of_block ((heap3 _ _ _ _ _ (by omega)).trans (hb.block _ HRB5.out.lt))
        clear hrb5
        go_wp2_with fail
        go_roundg k
        case measure => omega
        case rel => exact ⟨_, _, none, 0, 0, some ⟨wr.heap.size, 0, none⟩, 1, 1, by congr 1; omega, by omega, by rw [node_cnt]; simp [sumC]; omega, HNEW.out.1, HNEW.out.2.1, HNEW.out.2.2.1, HNEW.out.2.2.2⟩
  · go_wp2_with fail
    go_loopg [5] 5 (fun gk ix wr => ∃ (S : Sh) (M : Mx) (sa : Option Addr) (sn sc : Nat) (ka : Option Addr) (km kc : Nat), ix = .int .i64 (5 - (gk : Int)) ∧ gk ≤ 5 ∧ (cnt S + 2) * 2 ^ gk ≤ 8002 * 32 ∧ Xb wr W0.heap.size w2.heap.size S M sa sn sc ka km kc ∧ Rdr wr rb (p2 + 1) ∧ w.grownBy wr (some rb) ∧ Rb wr w.heap.size)
    case atStart => exact ⟨S, M, sa, sn, sc, ka, km, kc, rfl, by omega, Nat.mul_le_mul_right _ (by omega), HXB4.out, HR4.out, HG4.out, HRB4.out⟩
    case round =>
      clear HXB4 HR4 HG4 HRB4 hc2
      obtain ⟨S5, M5, sa5, sn5, sc5, ka5, km5, kc5, rfl, hg9, hc5, hx5, hr5, hg5, hrb5⟩ := hrel
      have HXB5 : Hid (Xb wr W0.heap.size w2.heap.size S5 M5 sa5 sn5 sc5 ka5 km5 kc5) := hx5
      have HR5 : Hid (Rdr wr rb (p2 + 1)) := hr5
      have HG5 : Hid (w.grownBy wr (some rb)) := hg5
      have HRB5 : Hid (Rb wr w.heap.size) := hrb5
      have hlx : w2.heap.size < wr.heap.size := hx5.lt
      obtain ⟨_, f0, f1, f2, ff⟩ := boxed hx5.box
      clear hx5 hr5 hg5
      cases gk with
      | zero =>
        obtain ⟨⟨b0', d0⟩, ⟨b1', d1⟩, ⟨b2', d2⟩, df⟩ := hrb5.cells
        clear hrb5
        simp only [Nat.pow_zero, Nat.mul_one] at hc5
        go_wp2_with fail
        refine bodyPost_ret (v := .agg #[.int .i64 S5.kind, .slice sa5 sn5 sc5, .slice ka5 km5 kc5]) (by simp [results, Tryd.results20, go_sem, d0, d1, d2]) rfl ?_
        exact Xb.res HXB5.out (by omega) (by omega) (p' := p2 + 1) (by omega) HR5.out (by omega) HG5.out
      | succ k =>
        have hz : (5 - ((k + 1 : Nat) : Int)) < 5 := by omega
        have hz0 : (0 : Int) ≤ 5 - ((k + 1 : Nat) : Int) := by omega
        have hc6 : (2 * cnt S5 + 2 + 2) * 2 ^ k ≤ 8002 * 32 := by
          rw [Nat.pow_succ] at hc5
          have : (2 * cnt S5 + 2 + 2) * 2 ^ k = (cnt S5 + 2) * (2 ^ k * 2) := by rw [show 2 * cnt S5 + 2 + 2 = (cnt S5 + 2) * 2 by omega, Nat.mul_assoc, Nat.mul_comm 2 (2 ^ k)]
          omega
        have hcS : cnt S5 ≤ 2097152 := by
          have h1 : (cnt S5 + 2) * 1 ≤ (cnt S5 + 2) * 2 ^ (k + 1) := Nat.mul_le_mul_left _ (Nat.one_le_two_pow)
          omega
        have HC : Hid (Calls Tryd.prog 37 #[.agg #[.int .i64 S5.kind, .slice sa5 sn5 sc5, .slice ka5 km5 kc5]] wr.drew (OwnRes S5 wr.drew)) := by
          have h := l2Copy_any S5 M5 wr.drew ((HXB5.out.tree.mono (fun _ _ => trivial)).below (Below.refl _ _).drew) hcS
          rwa [HXB5.out.value] at h
        have HNEW : Hid (∀ (M6 : Mx) (w6 : World) (ta : Option Addr) (tn tc : Nat) (la : Option Addr) (lm lc : Nat), M6.sv = .slice ta tn tc → M6.kv = .slice la lm lc → Own wr.drew.heap.size w6 S5 M6 → Below wr.drew.heap.size wr.drew w6 → Xb ((((w6.setCell ⟨w2.heap.size, 0, none⟩ (.int .i64 3)).setCell ⟨w2.heap.size, 1, none⟩ (.slice none 0 0)).setCell ⟨w2.heap.size, 2, none⟩ (.slice (some ⟨w6.heap.size, 0, none⟩) 2 2)).alloc (.cells #[.int .i64 S5.kind, .slice sa5 sn5 sc5, .slice ka5 km5 kc5, .int .i64 S5.kind, .slice ta tn tc, .slice la lm lc] 26)) W0.heap.size w2.heap.size (nodeS 3 [(S5, M5), (S5, M6)]) (nodeM (.slice (some ⟨w6.heap.size, 0, none⟩) 2 2) [(S5, M5), (S5, M6)]) none 0 0 (some ⟨w6.heap.size, 0, none⟩) 2 2 ∧ Rdr ((((w6.setCell ⟨w2.heap.size, 0, none⟩ (.int .i64 3)).setCell ⟨w2.heap.size, 1, none⟩ (.slice none 0 0)).setCell ⟨w2.heap.size, 2, none⟩ (.slice (some ⟨w6.heap.size, 0, none⟩) 2 2)).alloc (.cells #[.int .i64 S5.kind, .slice sa5 sn5 sc5, .slice ka5 km5 kc5, .int .i64 S5.kind, .slice ta tn tc, .slice la lm lc] 26)) rb (p2 + 1) ∧ w.grownBy ((((w6.setCell ⟨w2.heap.size, 0, none⟩ (.int .i64 3)).setCell ⟨w2.heap.size, 1, none⟩ (.slice none 0 0)).setCell ⟨w2.heap.size, 2, none⟩ (.slice (some ⟨w6.heap.size, 0, none⟩) 2 2)).alloc (.cells #[.int .i64 S5.kind, .slice sa5 sn5 sc5, .slice ka5 km5 kc5, .int .i64 S5.kind, .slice ta tn tc, .slice la lm lc] 26)) (some rb) ∧ Rb ((((w6.setCell ⟨w2.heap.size, 0, none⟩ (.int .i64 3)).setCell ⟨w2.heap.size, 1, none⟩ (.slice none 0 0)).setCell ⟨w2.heap.size, 2, none⟩ (.slice (some ⟨w6.heap.size, 0, none⟩) 2 2)).alloc (.cells #[.int .i64 S5.kind, .slice sa5 sn5 sc5, .slice ka5 km5 kc5, .int .i64 S5.kind, .slice ta tn tc, .slice la lm lc] 26)) w.heap.size) := by
          intro M6 w6 ta tn tc la lm lc es6 ek6 hown hbb
          have hb6 : Below wr.heap.size wr w6 := (Below.refl _ _).drew.trans hbb
          have hX6 := HXB5.out.keep hs2 (fun k h1 h2 => hb6.block k h2)
          have hs6 : wr.heap.size ≤ w6.heap.size := hb6.size
          have hb := below_new w6 (.cells #[.int .i64 S5.kind, .slice sa5 sn5 sc5, .slice ka5 km5 kc5, .int .i64 S5.kind, .slice ta tn tc, .slice la lm lc] 26)
          rw [al3 _ _ _ _ _ (by omega)]
          refine ⟨Xb.node ⟨_, _, _, hX6.box, trivial⟩ hs2 3 [(S5, M5), (S5, M6)] _ (by simp [encK, enc3, hX6.es, hX6.ek, es6, ek6]) (fun q hq => ?_) 2 rfl (by omega), ?_, ?_, ?_⟩
          · have hq2 : q = (S5, M5) ∨ q = (S5, M6) := by simpa using hq
            rcases hq2 with rfl | rfl
            · exact hX6.tree
            · exact hown.1.mono (fun k hk => ⟨⟨by have : wr.heap.size ≤ k := hk.1; omega, hk.2⟩, by have : wr.heap.size ≤ k := hk.1; omega⟩)
          · exact rdr3 ((HR5.out.below hb6).below hb) (by omega) _ _ _
          · exact ⟨hb6.os.trans HG5.out.os, hb6.tape.trans HG5.out.tape, hb6.output.trans HG5.out.output, by rw [size3, size_new]; have := HG5.out.size; omega, fun j hj hn => (heap3 _ _ _ _ _ (by omega)).trans ((hb.block j (by omega)).trans ((hb6.block j (by omega)).trans (HG5.out.block j hj hn)))⟩
          · exact HRB5.out.of_block ((heap3 _ _ _ _ _ (by omega)).trans ((hb.block _ (by have := HRB5.out.lt; omega)).trans (hb6.block _ HRB5.out.lt)))
        clear hrb5 hc5
        go_wp2_with fail
        go_region_with (first
          | (go_at_call 37; refine HC.out.mono ?_; rintro e w6 ⟨M6, rfl, hown, hbb⟩
             obtain ⟨ta, tn, tc, la, lm, lc, es6, ek6⟩ := hown.1.slices
             have HN6 := HNEW.out M6 w6 ta tn tc la lm lc es6 ek6 hown hbb
             rw [show vx S5 M6 = .agg #[.int .i64 S5.kind, .slice ta tn tc, .slice la lm lc] by rw [vx, es6, ek6]]
             have hb6 : Below wr.heap.size wr w6 := (Below.refl _ _).drew.trans hbb
             obtain ⟨_, q0, q1, q2, qf⟩ := boxed ((hb6.block _ hlx).trans HXB5.out.box)
             have hl6 : w2.heap.size < w6.heap.size := Nat.lt_of_lt_of_le hlx hb6.size
             clear hown hbb hb6 es6 ek6))
        all_goals go_wp2_with fail
        all_goals
          go_roundg k
          case measure => omega
          case rel => exact ⟨_, _, none, 0, 0, some ⟨w6.heap.size, 0, none⟩, 2, 2, by congr 1; omega, by omega, by rw [node_cnt]; simp only [sumC, List.length_cons, List.length_nil]; refine Nat.le_trans (Nat.mul_le_mul_right _ ?_) hc6; omega, HN6.1, HN6.2.1, HN6.2.2.1, HN6.2.2.2⟩
  · have z0 : (i == 0) = false := by simp; omega
    have z1 : (i == 1) = false := by simp; omega
    have z2 : (i == 2) = false := by simp; omega
    have z3 : (i == 3) = false := by simp; omega
    obtain ⟨_, f0, f1, f2, ff⟩ := boxed HXB4.out.box
    obtain ⟨⟨b0', d0⟩, ⟨b1', d1⟩, ⟨b2', d2⟩, df⟩ := HRB4.out.cells
    go_wp2_with fail
    refine bodyPost_ret (v := .agg #[.int .i64 S.kind, .slice sa sn sc, .slice ka km kc]) (by simp [results, Tryd.results20, go_sem, d0, d1, d2]) rfl ?_
    exact Xb.res HXB4.out (by omega) (by omega) (p' := p2 + 1) (by omega) HR4.out (by omega) HG4.out
end Go.Proofs.YtkbhljpdneibaaaDoor

