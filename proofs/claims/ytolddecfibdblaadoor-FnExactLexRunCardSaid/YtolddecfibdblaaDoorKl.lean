/- the walks of markDfa, eqBoolS, markBoolS, heldBoolS -/
import Derived.Test.YtolddecfibdblaaDoorKh
import Derived.Test.YtolddecfibdblaaDoorKk
namespace Go.Proofs.YtolddecfibdblaaDoor
open Go.RowKit
set_option linter.unusedVariables false
set_option linter.unusedSimpArgs false

theorem NewB.mono {P Q : Nat → (Nat → Bool) → Prop} {w0 w : World} {e : Ending} {w' : World} (h : NewB P w e w') (hpq : ∀ n F, P n F → Q n F) (hb : Below w0.heap.size w0 w) : NewB Q w0 e w' := by
  obtain ⟨a, b, n, c, F, rfl, h1, h2, h3⟩ := h
  exact ⟨a, b, n, c, F, rfl, fun hn => ⟨(h1 hn).1, Nat.le_trans hb.size (h1 hn).2.1, (h1 hn).2.2⟩, hpq n F h2, hb.trans (h3.mono hb.size)⟩

end Go.Proofs.YtolddecfibdblaaDoor
namespace Go.Proofs.YtolddecfibdblaaDoor
open Go.RowKit
set_option linter.unusedVariables false
set_option linter.unusedSimpArgs false

/-- of what was there nothing turned but blocks from lo to ahead of hi -/
structure Tn (lo hi : Nat) (w w' : World) : Prop where
  os : w'.os = w.os
  tape : w'.tape = w.tape
  output : w'.output = w.output
  size : w.heap.size ≤ w'.heap.size
  block : ∀ x, x < w.heap.size → ¬ (lo ≤ x ∧ x < hi) → w'.heap[x]? = w.heap[x]?
theorem Tn.below {lo hi : Nat} {w w' : World} (h : Tn lo hi w w') (hl : lo ≤ w.heap.size) : Below lo w w' := ⟨h.os, h.tape, h.output, h.size, fun k hk => h.block k (by omega) (by omega)⟩
theorem Tn.of_below {lo hi : Nat} {w w' : World} (h : Below w.heap.size w w') : Tn lo hi w w' := ⟨h.os, h.tape, h.output, h.size, fun x hx _ => h.block x hx⟩
theorem Tn.fr {lo hi : Nat} {w w1 w2 : World} {Y : Nat → Prop} (h : Tn lo hi w w1) (g : Fr Y w1 w2) (hy : ∀ x, Y x → lo ≤ x ∧ x < hi) : Tn lo hi w w2 := ⟨g.os.trans h.os, g.tape.trans h.tape, g.output.trans h.output, Nat.le_trans h.size (Nat.le_of_eq g.size.symm), fun x hx hn => (g.block x (fun e => hn (hy x e))).trans (h.block x hx hn)⟩

set_option maxHeartbeats 1000000 in
theorem markDfa_any (lo : Nat) (D : Dx) (V0 w : World) (h : OwnD lo V0 D) (hV : Below V0.heap.size V0 w) (hm : cntD D ≤ 1048576) :
    Calls Tryd.prog 19 #[dv D, .int .i64 1] w fun e w' => (∃ k : Nat, e = .returned (.int .i64 k)) ∧ Tn lo V0.heap.size w w' := by
  obtain ⟨W0, hW0⟩ : ∃ W0, W0 = w.alloc (.cells #[.slice D.pa D.pn D.pc, .slice D.ra D.rn D.rc, .slice D.aa D.an D.ac] 31) := ⟨_, rfl⟩
  have hb0 : Below w.heap.size w W0 := by rw [hW0]; exact (Below.refl _ _).alloc (Nat.le_refl _) _
  have hO : OwnD lo W0 D := h.below (hV.trans (hb0.mono hV.size))
  have hP : ∀ i, i < D.pn → lo ≤ D.P.b i ∧ D.P.b i < V0.heap.size := fun i hi => ⟨h.pl.2 i hi, (h.p.2 i hi).lt⟩
  have hR : ∀ i, i < D.rn → lo ≤ D.R.b i ∧ D.R.b i < V0.heap.size := fun i hi => ⟨h.rl.2 i hi, (h.r.2 i hi).lt⟩
  have hA : lo ≤ D.ab ∧ D.ab < V0.heap.size := ⟨h.al, h.a.lt⟩
  have hvs := hV.size
  have hpr : D.rb ≠ w.heap.size ∧ ∀ i, i < D.pn → D.rb ≠ D.P.b i := ⟨by have := h.r.1.lt; omega, fun i hi => Has.ne ⟨_, h.r.1⟩ (h.p.2 i hi) (by decide)⟩
  have hprr : ∀ j, j < D.rn → ∀ i, i < D.pn → D.R.b j ≠ D.P.b i := fun j hj i hi => Has.ne (h.r.2 j hj) (h.p.2 i hi) (by decide)
  have hpa : ∀ i, i < D.pn → D.ab ≠ D.P.b i := fun i hi => Has.ne h.a (h.p.2 i hi) (by decide)
  have hcd : D.pn + tot D.P.n D.pn + (D.rn + tot D.R.n D.rn) + D.an ≤ 1048576 := hm
  have hT0 : Tn lo V0.heap.size w W0 := .of_below hb0
  have HP : Hid (Calls Tryd.prog 41 #[.slice (some ⟨D.pb, 0, none⟩) D.pn D.pc, .int .i64 1] W0 fun e w' => e = .returned (.int .i64 (1 + 2 * (tot D.P.n D.pn : Int))) ∧ Fr (fun x => ∃ i, i < D.pn ∧ x = D.P.b i) W0 w') := markPS_any D.pb D.pn D.pc D.P.n D.P.b 1 W0 hO.p h.pp (by omega) (by omega) (by omega) (by omega)
  have HRS : Hid (∀ w1, Fr (fun x => ∃ i, i < D.pn ∧ x = D.P.b i) W0 w1 → Calls Tryd.prog 42 #[.slice (some ⟨D.rb, 0, none⟩) D.rn D.rc, .int .i64 (1 + 2 * (tot D.P.n D.pn : Int))] w1 fun e w' => e = .returned (.int .i64 (1 + 2 * (tot D.P.n D.pn : Int) + (tot D.R.n D.rn : Int))) ∧ Fr (fun x => ∃ i, i < D.rn ∧ x = D.R.b i) w1 w') := fun w1 hf =>
    markIS_any D.rb D.rn D.rc D.R.n D.R.b _ w1 ⟨hO.r.1.of_block (hf.block _ (fun ⟨i, hi, e⟩ => hpr.2 i hi e)), fun j hj => (hO.r.2 j hj).of_block (hf.block _ (fun ⟨i, hi, e⟩ => hprr j hj i hi e))⟩ h.rr (by omega) (by omega) (by omega) (by omega)
  have HAS : Hid (∀ w1 w2, Fr (fun x => ∃ i, i < D.pn ∧ x = D.P.b i) W0 w1 → Fr (fun x => ∃ i, i < D.rn ∧ x = D.R.b i) w1 w2 → Calls Tryd.prog 43 #[.slice (some ⟨D.ab, 0, none⟩) D.an D.ac, .int .i64 (1 + 2 * (tot D.P.n D.pn : Int) + (tot D.R.n D.rn : Int))] w2 fun e w' => e = .returned (.int .i64 (1 + 2 * (tot D.P.n D.pn : Int) + (tot D.R.n D.rn : Int) + (D.an : Int))) ∧ w'.rowIs D.ab 3 D.an (fun j => .int .i64 (1 + 2 * (tot D.P.n D.pn : Int) + (tot D.R.n D.rn : Int) + j)) ∧ Fr (fun x => x = D.ab) w2 w') := fun w1 w2 hf hg =>
    markI_any D.ab D.an D.ac _ w2 ((hO.a.of_block (hf.block _ (fun ⟨i, hi, e⟩ => hpa i hi e))).of_block (hg.block _ (fun ⟨i, hi, e⟩ => h.ar i hi e))) (by omega) (by omega) (by omega)
  have HC1 : Hid (∀ w1, Fr (fun x => ∃ i, i < D.pn ∧ x = D.P.b i) W0 w1 → w1.cell? ⟨w.heap.size, 1, none⟩ = some (.slice (some ⟨D.rb, 0, none⟩) D.rn D.rc) ∧ w1.cell? ⟨w.heap.size, 2, none⟩ = some (.slice (some ⟨D.ab, 0, none⟩) D.an D.ac)) := fun w1 hf => by
    have hnb : ¬ ∃ i, i < D.pn ∧ w.heap.size = D.P.b i := fun ⟨i, hi, e⟩ => by have := hP i hi; omega
    refine ⟨(hf.cell (a := ⟨w.heap.size, 1, none⟩) hnb).trans ?_, (hf.cell (a := ⟨w.heap.size, 2, none⟩) hnb).trans ?_⟩ <;> (rw [hW0, h.ra, h.aa]; simp [go_sem])
  have HC2 : Hid (∀ w1 w2, Fr (fun x => ∃ i, i < D.rn ∧ x = D.R.b i) w1 w2 → w2.cell? ⟨w.heap.size, 2, none⟩ = w1.cell? ⟨w.heap.size, 2, none⟩) := fun w1 w2 hf => hf.cell (a := ⟨w.heap.size, 2, none⟩) (fun ⟨i, hi, e⟩ => by have := hR i hi; simp at e; omega)
  have HFIN : Hid (∀ w1 w2 w3, Fr (fun x => ∃ i, i < D.pn ∧ x = D.P.b i) W0 w1 → Fr (fun x => ∃ i, i < D.rn ∧ x = D.R.b i) w1 w2 → Fr (fun x => x = D.ab) w2 w3 → Tn lo V0.heap.size w w3) := fun w1 w2 w3 h1 h2 h3 =>
    ((hT0.fr h1 (fun x ⟨i, hi, e⟩ => e ▸ hP i hi)).fr h2 (fun x ⟨i, hi, e⟩ => e ▸ hR i hi)).fr h3 (fun x e => e ▸ hA)
  obtain ⟨tp, htp⟩ : ∃ tp : Nat, tot D.P.n D.pn = tp := ⟨_, rfl⟩
  obtain ⟨tr, htr⟩ : ∃ tr : Nat, tot D.R.n D.rn = tr := ⟨_, rfl⟩
  rw [htp] at HP HRS HAS hcd
  rw [htr] at HRS HAS hcd
  rw [dv]
  rw [h.pa, h.ra, h.aa]
  rw [h.pa, h.ra, h.aa] at hW0
  clear h hO hP hR hA hpr hprr hpa hT0 hb0 hV hvs htp htr hm
  go_enter Tryd.func19, Tryd.ntmps19
  go_wp2_with fail
  rw [← hW0]
  clear hW0
  refine HP.out.mono ?_
  rintro e w1 ⟨rfl, h1⟩
  obtain ⟨c1, c2⟩ := HC1.out w1 h1
  go_wp2_with fail
  refine (HRS.out w1 h1).mono ?_
  rintro e w2 ⟨rfl, h2⟩
  have c3 := (HC2.out w1 w2 h2).trans c2
  go_wp2_with fail
  refine (HAS.out w1 w2 h1 h2).mono ?_
  rintro e w3 ⟨rfl, _, h3⟩
  go_wp2_with fail
  go_ret
  exact ⟨⟨1 + 2 * tp + tr + D.an, ret_int (by omega)⟩, HFIN.out w1 w2 w3 h1 h2 h3⟩

/-- a list lies there -/
def Bl (w : World) (a : Option Addr) (b n : Nat) (F : Nat → Bool) : Prop := 0 < n → a = some ⟨b, 0, none⟩ ∧ w.rowIs b 4 n (fun j => .bool (F j))
theorem Bl.of_block {w w' : World} {a : Option Addr} {b n : Nat} {F : Nat → Bool} (h : Bl w a b n F) (e : 0 < n → w'.heap[b]? = w.heap[b]?) : Bl w' a b n F := fun hn => ⟨(h hn).1, (h hn).2.of_block (e hn)⟩
theorem Bl.below {w w' : World} {a : Option Addr} {b n : Nat} {F : Nat → Bool} (h : Bl w a b n F) (hb : Below w.heap.size w w') : Bl w' a b n F := h.of_block (fun hn => hb.block b (h hn).2.lt)
end Go.Proofs.YtolddecfibdblaaDoor

