/- The walk of l2Some. -/
import Derived.Test.YtkbhljpdneibaaaDoorDm
import Derived.Test.YtkbhljpdneibaaaDoorTg
namespace Go.Proofs.YtkbhljpdneibaaaDoor
open Go.RowKit
set_option linter.unusedVariables false
set_option linter.unusedSimpArgs false

theorem DD_le : ∀ d, 2 ≤ d → d ≤ 4 → DD d ≤ 444 ∧ CC d ≤ 7996 := fun d h1 h2 => by
  have : d = 2 ∨ d = 3 ∨ d = 4 := by omega
  rcases this with rfl | rfl | rfl <;> decide

set_option maxRecDepth 100000 in
set_option maxHeartbeats 4000000 in
theorem l2Some_any (rb p : Nat) (hp : p ≤ 600000) (w : World) (h : Rdr w rb p) : Calls Tryd.prog 36 #[.pointer (some ⟨rb, 0, none⟩)] w (RexRes 460 8000 rb p w) := by
  have hrl := h.lt
  obtain ⟨W0, hW0⟩ : ∃ W0, W0 = w.alloc (.cells #[.int .i64 0, .slice none 0 0, .slice none 0 0] 26) := ⟨_, rfl⟩
  have hb0 : Below w.heap.size w W0 := by rw [hW0]; exact below_new _ _
  have HRB0 : Hid (Rb W0 w.heap.size) := by rw [Hid, hW0]; exact Rb.new _ _ _ _
  have HG0 : Hid (w.grownBy W0 (some rb)) := grown_of_below hb0
  have HR0 : Hid (Rdr W0 rb p) := h.below hb0
  clear hb0 h
  go_enter Tryd.func36, Tryd.ntmps36
  go_wp2_with fail
  rw [← hW0]
  clear hW0
  refine (pick_any rb p (by omega) 3 (by omega) (by omega) _ HR0.out).mono ?_
  rintro e w1 ⟨i, rfl, ⟨i0, i1, i2⟩, hr, hg⟩
  have i3 : i < 3 := i1 (by omega)
  obtain ⟨d, hd⟩ : ∃ d : Nat, (d : Int) = 2 + i := ⟨(2 + i).toNat, by omega⟩
  obtain ⟨hD, hC⟩ := DD_le d (by omega) (by omega)
  have HRB1 : Hid (Rb w1 w.heap.size) := HRB0.out.of_block (hg.block _ HRB0.out.lt (by simp; omega))
  have HG1 : Hid (w.grownBy w1 (some rb)) := HG0.out.trans hg
  have HREX : Hid (Calls Tryd.prog 53 #[.pointer (some ⟨rb, 0, none⟩), .int .i64 (2 + i)] w1 (RexRes (DD d) (CC d) rb (p + 1) w1)) := by
    have h := l2Rex_any d rb (p + 1) w1 (by omega) (by omega) hr
    rw [hd] at h
    exact h
  clear hr hg i1 i2 HG0 HRB0 HR0 hd
  go_wp2_with fail
  refine HREX.out.mono ?_
  rintro e w2 ⟨S, M, p2, rfl, hin2, hc2, hp2, hr2, hg2⟩
  obtain ⟨sa, sn, sc, ka, km, kc, es, ek⟩ := hin2.slices
  have HV : Hid (vx S M = .agg #[.int .i64 S.kind, .slice sa sn sc, .slice ka km kc]) := by rw [Hid, vx, es, ek]
  obtain ⟨W3, hW3⟩ : ∃ W3, W3 = w2.alloc (.cells #[.int .i64 S.kind, .slice sa sn sc, .slice ka km kc] 26) := ⟨_, rfl⟩
  have hb3 : Below w2.heap.size w2 W3 := by rw [hW3]; exact below_new _ _
  have hbx3 : W3.heap[w2.heap.size]? = some (.cells #[.int .i64 S.kind, .slice sa sn sc, .slice ka km kc] 26 (0, 0)) := by rw [hW3]; show (w2.heap.push _)[w2.heap.size]? = _; simp
  have hs1 : w.heap.size < w1.heap.size := HRB1.out.lt
  have HIN : Hid (In (fun k => w1.heap.size ≤ k ∧ Soft w2 k) w2 S M) := hin2
  have HR2 : Hid (Rdr w2 rb p2) := hr2
  have HG2 : Hid (w.grownBy w2 (some rb)) := HG1.out.trans hg2
  have HRB2 : Hid (Rb w2 w.heap.size) := HRB1.out.of_block (hg2.block _ HRB1.out.lt (by simp; omega))
  have HB3 : Hid (Below w2.heap.size w2 W3) := hb3
  have HOK : Hid (Calls Tryd.prog 11 #[.agg #[.int .i64 S.kind, .slice sa sn sc, .slice ka km kc]] W3 fun e w' => e = .returned (.bool (okR S)) ∧ Below W3.heap.size W3 w') := by
    have h := specRexOk_any S M W3 ((hin2.mono (fun _ _ => trivial)).below hb3) (by omega)
    rw [HV.out] at h
    exact h
  have HBX3 : Hid (W3.heap[w2.heap.size]? = some (.cells #[.int .i64 S.kind, .slice sa sn sc, .slice ka km kc] 26 (0, 0))) := hbx3
  rw [HV.out]
  clear es ek hin2 hr2 hg2 hb3 hbx3 HG1 HRB1 HREX
  rcases Bool.eq_false_or_eq_true (okR S) with hok | hok
  · rw [hok] at HOK
    clear hok
    go_wp2_with fail
    rw [← hW3]
    clear hW3
    refine HOK.out.mono ?_
    rintro e w4 ⟨rfl, hb4⟩
    have hb24 := HB3.out.trans (hb4.mono HB3.out.size)
    have HIN4 : Hid (In (fun k => w1.heap.size ≤ k ∧ Soft w4 k) w4 S M) := (HIN.out.below hb24).mono (fun k hk => ⟨hk.1, hk.2.below hb24⟩)
    have HR4 : Hid (Rdr w4 rb p2) := HR2.out.below hb24
    have HG4 : Hid (w.grownBy w4 (some rb)) := HG2.out.trans (grown_of_below hb24)
    have HRB4 : Hid (Rb w4 w.heap.size) := HRB2.out.of_block (hb24.block _ HRB2.out.lt)
    obtain ⟨f0, f1, f2⟩ := box_cells ((hb4.block _ (by rcases Nat.lt_or_ge w2.heap.size W3.heap.size with h' | h'; exact h'; exact absurd HBX3.out (by simp [Array.getElem?_eq_none h']))).trans HBX3.out)
    obtain ⟨⟨b0', d0⟩, ⟨b1', d1⟩, ⟨b2', d2⟩, df⟩ := HRB4.out.cells
    clear hb24 hb4
    go_wp2_with fail
    refine bodyPost_ret (v := .agg #[.int .i64 S.kind, .slice sa sn sc, .slice ka km kc]) (by simp [results, Tryd.results36, go_sem, d0, d1, d2]) rfl ?_
    rw [← HV.out]
    exact RexRes.of (soft3 hs1 _ _ _ HIN4.out) (by omega) (p' := p2) (by omega) (rdr3 HR4.out (by omega) _ _ _) (grown3 HG4.out (Nat.le_refl _) _ _ _)
  · rw [hok] at HOK
    clear hok
    go_wp2_with fail
    rw [← hW3]
    clear hW3
    refine HOK.out.mono ?_
    rintro e w4 ⟨rfl, hb4⟩
    have hb24 := HB3.out.trans (hb4.mono HB3.out.size)
    have HR4 : Hid (Rdr w4 rb p2) := HR2.out.below hb24
    have HG4 : Hid (w.grownBy w4 (some rb)) := HG2.out.trans (grown_of_below hb24)
    have HRB4 : Hid (Rb w4 w.heap.size) := HRB2.out.of_block (hb24.block _ HRB2.out.lt)
    clear hb24 hb4
    go_wp2_with fail
    refine (l2Leaf_any rb p2 (by omega) _ HR4.out).mono ?_
    rintro e w6 ⟨S6, M6, p6, rfl, hin6, hc6, hp6, hr6, hg6⟩
    have hsX : w.heap.size < w4.heap.size := HRB4.out.lt
    have HIN6 : Hid (In (fun k => w4.heap.size ≤ k ∧ Soft w6 k) w6 S6 M6) := hin6
    have HRB6 : Hid (Rb w6 w.heap.size) := HRB4.out.of_block (hg6.block _ HRB4.out.lt (by simp; omega))
    have HG6 : Hid (w.grownBy w6 (some rb)) := HG4.out.trans hg6
    have HR6 : Hid (Rdr w6 rb p6) := hr6
    obtain ⟨sa6, sn6, sc6, ka6, km6, kc6, es, ek⟩ := hin6.slices
    have HV6 : Hid (vx S6 M6 = .agg #[.int .i64 S6.kind, .slice sa6 sn6 sc6, .slice ka6 km6 kc6]) := by rw [Hid, vx, es, ek]
    rw [HV6.out]
    obtain ⟨⟨b0', d0⟩, ⟨b1', d1⟩, ⟨b2', d2⟩, df⟩ := HRB6.out.cells
    clear hin6 hg6 hr6 es ek
    go_wp2_with fail
    refine bodyPost_ret (v := .agg #[.int .i64 S6.kind, .slice sa6 sn6 sc6, .slice ka6 km6 kc6]) (by simp [results, Tryd.results36, go_sem, d0, d1, d2]) rfl ?_
    rw [← HV6.out]
    exact RexRes.of (soft3 hsX _ _ _ HIN6.out) (by omega) (p' := p6) (by omega) (rdr3 HR6.out (by omega) _ _ _) (grown3 HG6.out (Nat.le_refl _) _ _ _)
end Go.Proofs.YtkbhljpdneibaaaDoor

