/- The walk of DrawMatchLong. -/
import Derived.Test.YtdkdpdkmkabbaaaDoorDo
import Derived.Deep.CutRange
import Derived.Deep.RegionLaw
namespace Go.Proofs.YtdkdpdkmkabbaaaDoor
open Go.RowKit
set_option linter.unusedVariables false
set_option linter.unusedSimpArgs false

theorem below_grown {w w0 w' : World} {rb : Nat} (hb : Below w.heap.size w w0) (hg : w0.grownBy w' (some rb)) (hrb : w.heap.size ≤ rb) : Below w.heap.size w w' :=
  ⟨hg.os.trans hb.os, hg.tape.trans hb.tape, hg.output.trans hb.output, Nat.le_trans hb.size hg.size, fun k hk => (hg.block k (Nat.lt_of_lt_of_le hk hb.size) (by simp; omega)).trans (hb.block k hk)⟩

end Go.Proofs.YtdkdpdkmkabbaaaDoor
namespace Go.Proofs.YtdkdpdkmkabbaaaDoor
open Go.RowKit
set_option linter.unusedVariables false
set_option linter.unusedSimpArgs false

theorem enters15 : ∀ args w, (callFunc 15 args).run Tryd.prog w = .ok (.enter 15 args) w := enters_of Tryd.func15 (by kernel_rfl) rfl
/-- what is drawn: a Rex, a text, a place -/
def DrawRes3 (w : World) (e : Ending) (w' : World) : Prop := ∃ (S : Sh) (M : Mx) (s : ByteArray) (x : Int), e = .returned (.tuple #[vx S M, .string s, .int .i64 x]) ∧ In (Soft w') w' S M ∧ cnt S ≤ 256100 ∧ s.size ≤ 12 ∧ (-1 ≤ x ∧ x ≤ 20) ∧ Below w.heap.size w w'
set_option maxRecDepth 100000 in
set_option maxHeartbeats 4000000 in
theorem drawLong_any (a : Option Addr) (n c bb off : Nat) (V : Nat → Nat) (w : World) (hn : n ≤ 1048576) (hc : n ≤ c) (hcc : c ≤ 9223372036854775807) (ha : 0 < n → a = some ⟨bb, off, none⟩ ∧ bb < w.heap.size) (hV : ∀ i, i < n → V i ≤ 255 ∧ w.cell? ⟨bb, off + i, none⟩ = some (.int .u8 (V i : Int))) :
    Calls Tryd.prog 5 #[.slice a n c] w (DrawRes3 w) := by
  obtain ⟨W0, hW0⟩ : ∃ W0, W0 = w.alloc (.cells #[.int .i64 0, .slice none 0 0, .slice none 0 0] 26) := ⟨_, rfl⟩
  have hb0 : Below w.heap.size w W0 := by rw [hW0]; exact below_new _ _
  have hs0 : w.heap.size < W0.heap.size := by rw [hW0, size_new]; omega
  have HRB0 : Hid (Rb W0 w.heap.size) := by rw [Hid, hW0]; exact Rb.new _ _ _ _
  have HB0 : Hid (Below w.heap.size w W0) := hb0
  have HO : Hid (Calls Tryd.prog 12 #[.slice a n c] W0 fun e w' => e = .returned (.pointer (some ⟨W0.heap.size, 0, none⟩)) ∧ Rdr w' W0.heap.size 0 ∧ Below W0.heap.size W0 w') :=
    open_big a n c bb off V W0 hn hc hcc (fun h => ⟨(ha h).1, by have := (ha h).2; omega⟩) (fun i hi => ⟨(hV i hi).1, (hb0.cell (p := ⟨bb, off + i, none⟩) (ha (by omega)).2).trans (hV i hi).2⟩)
  clear hb0 hV ha
  go_enter Tryd.func5, Tryd.ntmps5
  go_wp2_with fail
  rw [← hW0]
  clear hW0
  refine HO.out.mono ?_
  rintro e w1 ⟨rfl, hr1, hb1⟩
  have HR1 : Hid (Rdr w1 W0.heap.size 0) := hr1
  have HB1 : Hid (Below w.heap.size w w1) := HB0.out.trans (hb1.mono HB0.out.size)
  have HRB1 : Hid (Rb w1 w.heap.size) := HRB0.out.of_block (hb1.block _ HRB0.out.lt)
  have hs1 : W0.heap.size ≤ w1.heap.size := hb1.size
  clear hr1 hb1 HO HRB0 HB0
  go_wp2_with fail
  refine (l2Bent_any W0.heap.size 0 (by omega) _ HR1.out).mono ?_
  rintro e w2 ⟨S, M, p2, rfl, hin2, hc2, hp2, hr2, hg2⟩
  obtain ⟨sa, sn, sc, ka, km, kc, es, ek⟩ := hin2.slices
  have HV : Hid (vx S M = .agg #[.int .i64 S.kind, .slice sa sn sc, .slice ka km kc]) := by rw [Hid, vx, es, ek]
  obtain ⟨W3, hW3⟩ : ∃ W3, W3 = w2.alloc (.cells #[.int .i64 S.kind, .slice sa sn sc, .slice ka km kc] 26) := ⟨_, rfl⟩
  have hb3 : Below w2.heap.size w2 W3 := by rw [hW3]; exact below_new _ _
  have hbx3 : W3.heap[w2.heap.size]? = some (.cells #[.int .i64 S.kind, .slice sa sn sc, .slice ka km kc] 26 (0, 0)) := by rw [hW3]; show (w2.heap.push _)[w2.heap.size]? = _; simp
  have hrl := HR1.out.lt
  have hs2 : w1.heap.size ≤ w2.heap.size := hg2.size
  have HXB : Hid (Xb W3 w1.heap.size w2.heap.size S M sa sn sc ka km kc) := ⟨hbx3, es, ek, (hin2.below hb3).mono (fun k hk => ⟨⟨hk.1, hk.2.below hb3⟩, by have := hk.2.lt; omega⟩)⟩
  have HR3 : Hid (Rdr W3 W0.heap.size p2) := hr2.below hb3
  have HB3 : Hid (Below w.heap.size w W3) := (below_grown HB1.out hg2 (by omega)).trans (hb3.mono (by omega))
  have HRB3 : Hid (Rb W3 w.heap.size) := (HRB1.out.of_block (hg2.block _ HRB1.out.lt (by simp; omega))).of_block (hb3.block _ (by omega))
  rw [HV.out]
  have HC2 : Hid (cnt S ≤ 256100) := hc2
  clear es ek hin2 hr2 hg2 hb3 hbx3 HB1 HRB1 HR1 hc2
  go_wp2_with fail
  rw [← hW3]
  clear hW3
  refine (word_any W0.heap.size p2 7 (by omega) (by omega) _ HR3.out).mono ?_
  rintro e w4 ⟨s, p4, rfl, hs7, hp4, hr4, hg4⟩
  have HXB4 : Hid (Xb w4 w1.heap.size w2.heap.size S M sa sn sc ka km kc) := HXB.out.keep hs2 (fun k h1 h2 => hg4.block k h2 (by simp; omega))
  have HR4 : Hid (Rdr w4 W0.heap.size p4) := hr4
  have HB4 : Hid (Below w.heap.size w w4) := below_grown HB3.out hg4 (by omega)
  have HRB4 : Hid (Rb w4 w.heap.size) := HRB3.out.of_block (hg4.block _ HRB3.out.lt (by simp; omega))
  have hbx4 : w2.heap.size < w4.heap.size := HXB4.out.lt
  have hlw4 : w.heap.size < w4.heap.size := HRB4.out.lt
  have HEND : Hid (∀ (x : Int) (V : World), -1 ≤ x → x ≤ 20 → w4.grownBy V (some W0.heap.size) → DrawRes3 w (.returned (.tuple #[.agg #[.int .i64 S.kind, .slice sa sn sc, .slice ka km kc], .string s, .int .i64 x])) (((V.setCell ⟨w.heap.size, 0, none⟩ (.int .i64 S.kind)).setCell ⟨w.heap.size, 1, none⟩ (.slice sa sn sc)).setCell ⟨w.heap.size, 2, none⟩ (.slice ka km kc))) := by
    intro x V hx1 hx2 hg
    have hx := HXB4.out.keep (w' := V) hs2 (fun k h1 h2 => hg.block k h2 (by simp; omega))
    have hbV := below_grown HB4.out hg (by omega)
    refine ⟨S, M, s, x, by rw [hx.value], ?_, HC2.out, by omega, ⟨hx1, hx2⟩, ((hbV.setCell (Nat.le_refl _) _).setCell (Nat.le_refl _) _).setCell (Nat.le_refl _) _⟩
    exact (soft3 (b := w.heap.size) (c := w1.heap.size) (by omega) _ _ _ (hx.tree.mono (fun k hk => hk.1))).mono (fun k hk => hk.2)
  obtain ⟨_, f0, f1, f2, ff⟩ := boxed HXB4.out.box
  obtain ⟨⟨b0', d0⟩, ⟨b1', d1⟩, ⟨b2', d2⟩, df⟩ := HRB4.out.cells
  have HCL : Hid (∀ V, w4.grownBy V (some W0.heap.size) → (V.cell? ⟨w2.heap.size, 0, none⟩ = some (.int .i64 S.kind) ∧ V.cell? ⟨w2.heap.size, 1, none⟩ = some (.slice sa sn sc) ∧ V.cell? ⟨w2.heap.size, 2, none⟩ = some (.slice ka km kc)) ∧ ((∃ x, V.cell? ⟨w.heap.size, 0, none⟩ = some x) ∧ (∃ x, V.cell? ⟨w.heap.size, 1, none⟩ = some x) ∧ (∃ x, V.cell? ⟨w.heap.size, 2, none⟩ = some x) ∧ ∀ o, V.frozen? ⟨w.heap.size, o, none⟩ = false)) := fun V hg => by
    obtain ⟨_, q0, q1, q2, qf⟩ := boxed ((hg.block _ hbx4 (by simp; omega)).trans HXB4.out.box)
    exact ⟨⟨q0, q1, q2⟩, (HRB4.out.of_block (hg.block _ HRB4.out.lt (by simp; omega))).cells⟩
  clear hr4 hg4 HXB HR3 HB3 HRB3
  have hsI : (s.size : Int) ≤ 7 := by omega
  have HP : Hid (Calls Tryd.prog 15 #[.pointer (some ⟨W0.heap.size, 0, none⟩), .int .i64 ((s.size : Int) + 3)] w4.drew (PickRes ((s.size : Int) + 3) W0.heap.size p4 w4.drew)) := pick_any W0.heap.size p4 (by omega) _ (by omega) (by omega) w4.drew (HR4.out.below (Below.refl _ _).drew)
  have HRET : Hid (∀ e w', PickRes ((s.size : Int) + 3) W0.heap.size p4 w4.drew e w' → ∃ r, e = .returned r) := fun e w' ⟨i, he, _⟩ => ⟨_, he⟩
  have HSTEP : Hid (∀ r w5, PickRes ((s.size : Int) + 3) W0.heap.size p4 w4.drew (.returned r) w5 → ∃ i : Int, r = .int .i64 i ∧ 0 ≤ i ∧ i < (s.size : Int) + 3 ∧ Hid (w4.grownBy w5 (some W0.heap.size))) := by
    rintro r w5 ⟨i, he, ⟨i0, i1, i2⟩, hr5, hg5⟩
    exact ⟨i, Ending.returned.inj he, i0, i1 (by omega), (grown_of_below (Below.refl _ _).drew).trans hg5⟩
  have hw3 : IntKind.i64.wrap ((s.size : Int) + 3) = (s.size : Int) + 3 := by rw [IntKind.wrap_i64]; omega
  go_wp2_with fail
  go_region_law (first
    | (refine step_call2 rfl 15 _ _ 35 3 rfl enters15 (.pointer (some ⟨W0.heap.size, 0, none⟩)) (.int .i64 ((s.size : Int) + 3)) rfl rfl HP.out HRET.out ?_
       intro r w5 hres
       obtain ⟨i, hri, i0, i3, HG5⟩ := HSTEP.out r w5 hres
       subst hri
       have hwi : IntKind.i64.wrap (i - 1) = i - 1 := by rw [IntKind.wrap_i64]; omega
       obtain ⟨⟨q0, q1, q2⟩, ⟨⟨c0', e0⟩, ⟨c1', e1⟩, ⟨c2', e2⟩, ef⟩⟩ := HCL.out w5 HG5.out
       clear hres))
  all_goals go_wp2_with fail
  all_goals refine bodyPost_ret (v := .tuple #[.agg #[.int .i64 S.kind, .slice sa sn sc, .slice ka km kc], .string s, .int .i64 (i - 1)]) (by simp [results, Tryd.results5, go_sem, e0, e1, e2, hwi]) rfl ?_
  all_goals exact HEND.out (i - 1) w5 (by omega) (by omega) HG5.out
end Go.Proofs.YtdkdpdkmkabbaaaDoor

