/- LexAt: the project's side: noToken, lexerOf, longest -/
import Derived.Test.YtolddecfibdblaaDoorXh
import Derived.Test.YtolddecfibdblaaDoorJu
import Derived.Test.YtolddecfibdblaaDoorXa
import Derived.Deep.RegionHeld
import Derived.Deep.Cut
namespace Go.Proofs.YtolddecfibdblaaDoor
open Go.RowKit
set_option linter.unusedVariables false
set_option linter.unusedSimpArgs false

set_option maxHeartbeats 1000000 in
theorem noToken_any (x : Int) (w : World) : Calls Tryd.prog 53 #[.int .i64 x] w fun e w' => e = .returned (.agg #[.int .i64 (-1), .int .i64 x, .int .i64 x]) ∧ Below w.heap.size w w' := by
  go_enter Tryd.func53, Tryd.ntmps53
  go_wp2_with fail
  refine bodyPost_ret (v := .agg #[.int .i64 (-1), .int .i64 x, .int .i64 x]) (by simp [results, Tryd.results53, go_sem]) rfl ⟨rfl, ?_⟩
  exact (Below.refl _ _).alloc (Nat.le_refl _) _

/-- what lexerOf gives: the rows by bytes, and the rules of the machine -/
def LexerRes (D : Dx) (w : World) (e : Ending) (w' : World) : Prop :=
  ∃ (g : Nat) (Q : Nat → Int), e = .returned (.agg #[.slice (some ⟨g, 0, none⟩) D.rn D.rn, .slice D.aa D.an D.ac]) ∧ w.heap.size ≤ g ∧ w'.rowIs g 54 (D.rn * 256) (fun j => .int .i64 (Q j)) ∧ (∀ i, i < D.rn → RowFit D.P (D.R.G i) (fun x => Q (i * 256 + x)) D.pn) ∧ Below w.heap.size w w'

set_option maxRecDepth 100000 in
set_option maxHeartbeats 4000000 in
theorem lexerOf_any (D : Dx) (w : World) (h : DIn w D) (hm : DLe D 4194304) (hd : DOk D) :
    Calls Tryd.prog 36 #[dv D] w (LexerRes D w) := by
  obtain ⟨W0, hW0⟩ : ∃ W0, W0 = (w.alloc (.cells #[.slice D.pa D.pn D.pc, .slice D.ra D.rn D.rc, .slice D.aa D.an D.ac] 31)).alloc (.cells #[.slice none 0 0, .slice none 0 0] 61) := ⟨_, rfl⟩
  have hb0 : Below w.heap.size w W0 := by rw [hW0]; exact ((Below.refl _ _).alloc (Nat.le_refl _) _).alloc (by simp) _
  have HX : Hid (∀ V, Below W0.heap.size W0 V → (V.cell? ⟨w.heap.size, 0, none⟩ = some (.slice D.pa D.pn D.pc) ∧ V.cell? ⟨w.heap.size, 1, none⟩ = some (.slice D.ra D.rn D.rc) ∧ V.cell? ⟨w.heap.size, 2, none⟩ = some (.slice D.aa D.an D.ac)) ∧ (V.cell? ⟨w.heap.size + 1, 0, none⟩ = some (.slice none 0 0) ∧ V.cell? ⟨w.heap.size + 1, 1, none⟩ = some (.slice none 0 0)) ∧ V.frozen? ⟨w.heap.size + 1, 0, none⟩ = false ∧ V.frozen? ⟨w.heap.size + 1, 1, none⟩ = false) := fun V hV => by
    have e1 : V.heap[w.heap.size + 1]? = W0.heap[w.heap.size + 1]? := hV.block _ (by rw [hW0]; simp)
    refine ⟨⟨((bcell hV).1 _ _ (by rw [hW0]; simp; omega)).trans ?_, ((bcell hV).1 _ _ (by rw [hW0]; simp; omega)).trans ?_, ((bcell hV).1 _ _ (by rw [hW0]; simp; omega)).trans ?_⟩, ⟨((bcell hV).1 _ _ (by rw [hW0]; simp)).trans ?_, ((bcell hV).1 _ _ (by rw [hW0]; simp)).trans ?_⟩, (World.frozen?_of_block (w := W0) e1).trans ?_, (World.frozen?_of_block (w := W0) e1).trans ?_⟩ <;> (rw [hW0]; simp [go_sem])
  have HR : Hid (∀ V, Below W0.heap.size W0 V → Calls Tryd.prog 31 #[.agg #[.slice D.pa D.pn D.pc, .slice D.ra D.rn D.rc, .slice D.aa D.an D.ac]] V (RowsRes D V)) := fun V hV => byteRowsOf_any D V (h.below (hb0.trans (hV.mono hb0.size))) hm hd
  have HB0 : Hid (Below w.heap.size w W0) := hb0
  have hw0 : w.heap.size + 1 < W0.heap.size := by rw [hW0]; simp
  rw [dv]
  clear h hm hd
  go_enter Tryd.func36, Tryd.ntmps36
  go_wp2_with fail
  rw [← hW0]
  clear hW0 hb0
  obtain ⟨⟨p0, p1, p2⟩, ⟨l0, l1⟩, f0, f1⟩ := HX.out W0 (Below.refl _ _)
  have HBR : Hid (Below W0.heap.size W0 W0.drew) := (Below.refl _ _).drew
  go_region_held (fun V => (V.cell? ⟨w.heap.size, 0, none⟩ = some (.slice D.pa D.pn D.pc) ∧ V.cell? ⟨w.heap.size, 1, none⟩ = some (.slice D.ra D.rn D.rc) ∧ V.cell? ⟨w.heap.size, 2, none⟩ = some (.slice D.aa D.an D.ac))) (go_keep)
    (first | (go_at_call 31; refine (HR.out W0.drew HBR.out).mono ?_; rintro e w5 ⟨g, Q, rfl, hg, hrow, hfit, hb5⟩; have HB5 : Hid (Below W0.heap.size W0 w5) := HBR.out.trans hb5; have HRW : Hid (w5.rowIs g 54 (D.rn * 256) (fun j => .int .i64 (Q j))) := hrow; have HFT : Hid (∀ i, i < D.rn → RowFit D.P (D.R.G i) (fun x => Q (i * 256 + x)) D.pn) := hfit; clear hrow hfit; obtain ⟨⟨x0, x1, x2⟩, ⟨y0, y1⟩, z0, z1⟩ := HX.out w5 HB5.out))
  all_goals go_wp2_with fail
  all_goals
    have hgg : W0.heap.size ≤ g := hg
    refine bodyPost_ret (v := .agg #[.slice (some ⟨g, 0, none⟩) D.rn D.rn, .slice D.aa D.an D.ac]) ?_ rfl ⟨g, Q, rfl, by have := HB0.out.size; omega, (HRW.out.of_block (Below.heap_setCell _ _ _ _ (by simp; omega))).of_block (Below.heap_setCell _ _ _ _ (by simp; omega)), HFT.out, ((HB0.out.trans (HB5.out.mono HB0.out.size)).setCell (by simp) _).setCell (by simp) _⟩
    simp [results, Tryd.results36, go_sem, y0, y1]
end Go.Proofs.YtolddecfibdblaaDoor

