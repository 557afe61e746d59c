/- the walk of behind -/
import Derived.Test.YtbfpnndcbaffoaaDoorKb
namespace Go.Proofs.YtbfpnndcbaffoaaDoor
open Go.RowKit
set_option linter.unusedVariables false
set_option linter.unusedSimpArgs false

set_option maxRecDepth 100000 in
set_option maxHeartbeats 1000000 in
theorem behind_any (D : Dx) (x y : Int) (k : Nat) (w : World) (h : DIn w D) (hd : DOk D) (hx : -1 ≤ x ∧ x < D.rn) (hy : -1 ≤ y ∧ y < D.rn) (hk : k < D.pn) :
    Calls Tryd.prog 47 #[.agg #[.int .i64 x, .int .i64 y], dv D, .int .i64 k] w fun e w' => e = .returned (.agg #[.int .i64 (nxI D x k), .int .i64 (nxI D y k)]) ∧ Below w.heap.size w w' := by
  obtain ⟨W0, hW0⟩ : ∃ W0, W0 = ((w.alloc (.cells #[.int .i64 x, .int .i64 y] 67)).alloc (.cells #[.slice D.pa D.pn D.pc, .slice D.ra D.rn D.rc, .slice D.aa D.an D.ac] 32)).alloc (.cells #[.int .i64 0, .int .i64 0] 67) := ⟨_, rfl⟩
  have hb0 : Below w.heap.size w W0 := by rw [hW0]; exact (((Below.refl _ _).alloc (Nat.le_refl _) _).alloc (by simp) _).alloc (by simp; omega) _
  have HB0 : Hid (Below w.heap.size w W0) := hb0
  have hsz : w.heap.size + 3 = W0.heap.size := by rw [hW0]; simp
  have HX1 : Hid (∀ V, Below W0.heap.size W0 V → Calls Tryd.prog 61 #[.agg #[.slice D.pa D.pn D.pc, .slice D.ra D.rn D.rc, .slice D.aa D.an D.ac], .int .i64 x, .int .i64 k] V fun e w' => e = .returned (.int .i64 (nxI D x k)) ∧ Below V.heap.size V w') := fun V hV => nextBy_any D x k V (h.below (hb0.trans (hV.mono hb0.size))) hd hx hk
  have HX2 : Hid (∀ V, Below W0.heap.size W0 V → Calls Tryd.prog 61 #[.agg #[.slice D.pa D.pn D.pc, .slice D.ra D.rn D.rc, .slice D.aa D.an D.ac], .int .i64 y, .int .i64 k] V fun e w' => e = .returned (.int .i64 (nxI D y k)) ∧ Below V.heap.size V w') := fun V hV => nextBy_any D y k V (h.below (hb0.trans (hV.mono hb0.size))) hd hy hk
  have HC : Hid (∀ V, Below W0.heap.size W0 V → (V.cell? ⟨w.heap.size, 0, none⟩ = some (.int .i64 x) ∧ V.cell? ⟨w.heap.size, 1, none⟩ = some (.int .i64 y)) ∧ (V.cell? ⟨w.heap.size + 1, 0, none⟩ = some (.slice D.pa D.pn D.pc) ∧ V.cell? ⟨w.heap.size + 1, 1, none⟩ = some (.slice D.ra D.rn D.rc) ∧ V.cell? ⟨w.heap.size + 1, 2, none⟩ = some (.slice D.aa D.an D.ac)) ∧
      (V.cell? ⟨w.heap.size + 1 + 1, 0, none⟩ = some (.int .i64 0) ∧ V.cell? ⟨w.heap.size + 1 + 1, 1, none⟩ = some (.int .i64 0)) ∧ V.frozen? ⟨w.heap.size + 1 + 1, 0, none⟩ = false ∧ V.frozen? ⟨w.heap.size + 1 + 1, 1, none⟩ = false) := fun V hV => by
    obtain ⟨hc, hf⟩ := bcell hV
    refine ⟨⟨(hc _ _ (by omega)).trans ?_, (hc _ _ (by omega)).trans ?_⟩, ⟨(hc _ _ (by omega)).trans ?_, (hc _ _ (by omega)).trans ?_, (hc _ _ (by omega)).trans ?_⟩, ⟨(hc _ _ (by omega)).trans ?_, (hc _ _ (by omega)).trans ?_⟩, (hf _ _ (by omega)).trans ?_, (hf _ _ (by omega)).trans ?_⟩ <;> (rw [hW0]; simp [go_sem])
  have hbd : Below W0.heap.size W0 W0.drew := (Below.refl _ _).drew
  have HBD : Hid (Below W0.heap.size W0 W0.drew) := hbd
  obtain ⟨⟨p0, p1⟩, ⟨p2, p3, p4⟩, ⟨p5, p6⟩, p7, p8⟩ := HC.out _ (Below.refl _ _)
  clear h hd hb0 hbd hx hy hk
  rw [dv]
  go_enter Tryd.func47, Tryd.ntmps47
  go_wp2_with fail
  rw [← hW0]
  clear hW0
  go_region_held (fun V => (V.cell? ⟨w.heap.size, 0, none⟩ = some (.int .i64 x) ∧ V.cell? ⟨w.heap.size, 1, none⟩ = some (.int .i64 y)) ∧ (V.cell? ⟨w.heap.size + 1, 0, none⟩ = some (.slice D.pa D.pn D.pc) ∧ V.cell? ⟨w.heap.size + 1, 1, none⟩ = some (.slice D.ra D.rn D.rc) ∧ V.cell? ⟨w.heap.size + 1, 2, none⟩ = some (.slice D.aa D.an D.ac))) ((first | (refine ⟨⟨?_, ?_⟩, ?_, ?_, ?_⟩ <;> (rw [World.cell?_setCell_far _ _ _ _ (by simp <;> omega), World.cell?_setCell_far _ _ _ _ (by simp <;> omega)]; assumption)) | go_keep))
    (first
      | (go_at_call 61; (with_reducible refine (HX2.out wX HBX.out).mono ?_); rintro e wY ⟨rfl, hbY⟩; have HBE : Hid (Below W0.heap.size W0 wY) := HBX.out.trans (hbY.mono HBX.out.size); obtain ⟨⟨q0, q1⟩, ⟨q2, q3, q4⟩, ⟨q5, q6⟩, q7, q8⟩ := HC.out _ HBE.out)
      | (go_at_call 61; (with_reducible refine (HX1.out wY HBY.out).mono ?_); rintro e wX ⟨rfl, hbX⟩; have HBE : Hid (Below W0.heap.size W0 wX) := HBY.out.trans (hbX.mono HBY.out.size); obtain ⟨⟨q0, q1⟩, ⟨q2, q3, q4⟩, ⟨q5, q6⟩, q7, q8⟩ := HC.out _ HBE.out)
      | (go_at_call 61; (with_reducible refine (HX1.out W0.drew HBD.out).mono ?_); rintro e wX ⟨rfl, hbX⟩; have HBX : Hid (Below W0.heap.size W0 wX) := HBD.out.trans (hbX.mono HBD.out.size); obtain ⟨⟨q0, q1⟩, ⟨q2, q3, q4⟩, ⟨q5, q6⟩, q7, q8⟩ := HC.out _ HBX.out)
      | (go_at_call 61; (with_reducible refine (HX2.out W0.drew HBD.out).mono ?_); rintro e wY ⟨rfl, hbY⟩; have HBY : Hid (Below W0.heap.size W0 wY) := HBD.out.trans (hbY.mono HBD.out.size); obtain ⟨⟨q0, q1⟩, ⟨q2, q3, q4⟩, ⟨q5, q6⟩, q7, q8⟩ := HC.out _ HBY.out))
  all_goals go_wp2_with fail
  all_goals
    refine bodyPost_ret (v := .agg #[.int .i64 (nxI D x k), .int .i64 (nxI D y k)]) (by simp [results, Tryd.results47, go_sem, q5, q6, q7, q8]) rfl ?_
    exact ⟨rfl, ((HB0.out.trans (HBE.out.mono HB0.out.size)).setCell (by simp; omega) _).setCell (by simp; omega) _⟩
end Go.Proofs.YtbfpnndcbaffoaaDoor

