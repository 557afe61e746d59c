/- the walks of DfaRun, both sides -/
import Derived.Test.YtolddecfibdblaaDoorJt
namespace Go.Proofs.YtolddecfibdblaaDoor
open Go.RowKit
set_option linter.unusedVariables false
set_option linter.unusedSimpArgs false

theorem Tryd.infoRow : (Tryd.prog.info? 54).map (fun i => (i.zero, i.size, i.bytes)) = some (some (.agg z256), 256, 2048) := by kernel_rfl
theorem makeRows (n : Nat) (hn : n ≤ 1048576) (w : World) : (Instr.makeSlice 51 (.int .i64 n) (.int .i64 n)).run Tryd.prog w = .ok (.slice (some ⟨w.heap.size, 0, none⟩) n n) (w.alloc (.cells (madeCells z256 (n * 256)) 54)) := by
  obtain ⟨i0, hi, hz0, hz1, hz2⟩ := info_parts Tryd.infoRow
  have h := run_make (P := Tryd.prog) w 51 54 i0 _ Tryd.underlying51 hi hz0 .i64 .i64 n n (by omega) (by omega) (by rw [hz2]; omega) (by omega)
  rw [hz1] at h
  simpa [Value.cells] using h
theorem made_rows (w : World) (n : Nat) : (w.alloc (.cells (madeCells z256 (n * 256)) 54)).rowIs w.heap.size 54 (n * 256) (fun _ => .int .i64 0) := by
  have h := World.rowIs_alloc w (madeCells z256 (n * 256)) 54 (fun _ => .int .i64 0) (fun i hi => by
    rw [size_madeCells] at hi
    simp only [madeCells, Array.getElem?_map]
    rw [Array.getElem?_range, if_pos hi]
    have : i % 256 < 256 := Nat.mod_lt _ (by omega)
    simp [z256, this])
  rw [size_madeCells] at h
  exact h
theorem row_setCells (g t : Nat) (N : Nat) : ∀ (vs : List Value) (o : Nat) (w : World) (f : Nat → Value), w.rowIs g t N f → (w.setCells g o vs).rowIs g t N (fun j => if o ≤ j ∧ j < o + vs.length then vs.getD (j - o) (f j) else f j)
  | [], o, w, f, h => h.congr (fun j _ => by
    have c : ¬ (o ≤ j ∧ j < o + ([] : List Value).length) := by
      have : ([] : List Value).length = 0 := rfl
      omega
    rw [if_neg c])
  | v :: r, o, w, f, h => by
    rw [World.setCells]
    refine (row_setCells g t N r (o + 1) _ _ (h.set o v)).congr (fun j _ => ?_)
    have hl : (v :: r).length = r.length + 1 := rfl
    by_cases e : j = o
    · subst e
      have c : ¬ (j + 1 ≤ j ∧ j < j + 1 + r.length) := by omega
      have c' : j ≤ j ∧ j < j + (v :: r).length := by omega
      rw [if_neg c, if_pos c', if_pos rfl]
      simp
    · by_cases c : o + 1 ≤ j ∧ j < o + 1 + r.length
      · have c' : o ≤ j ∧ j < o + (v :: r).length := by omega
        have hj : j - o = (j - (o + 1)) + 1 := by omega
        rw [if_pos c, if_pos c', if_neg e, hj]
        simp
      · have c' : ¬ (o ≤ j ∧ j < o + (v :: r).length) := by omega
        rw [if_neg c, if_neg c', if_neg e]

/-- the rows of a machine by bytes: what byteRowsOf gives -/
def RowsRes (D : Dx) (w : World) (e : Ending) (w' : World) : Prop :=
  ∃ (g : Nat) (Q : Nat → Int), e = .returned (.slice (some ⟨g, 0, none⟩) D.rn D.rn) ∧ w.heap.size ≤ g ∧ w'.rowIs g 54 (D.rn * 256) (fun j => .int .i64 (Q j)) ∧ (∀ i, i < D.rn → RowFit D.P (D.R.G i) (fun x => Q (i * 256 + x)) D.pn) ∧ Below w.heap.size w w'

set_option maxRecDepth 100000 in
set_option maxHeartbeats 4000000 in
theorem byteRowsOf_any (D : Dx) (w : World) (h : DIn w D) (hm : DLe D 4194304) (hd : DOk D) :
    Calls Tryd.prog 31 #[dv D] w (RowsRes D w) := by
  obtain ⟨w1, hW0⟩ : ∃ W0, W0 = w.alloc (.cells #[.slice D.pa D.pn D.pc, .slice D.ra D.rn D.rc, .slice D.aa D.an D.ac] 31) := ⟨_, rfl⟩
  have hb0 : Below w.heap.size w w1 := by rw [hW0]; exact (Below.refl _ _).alloc (Nat.le_refl _) _
  have HX : Hid (∀ V, Below w1.heap.size w1 V → V.cell? ⟨w.heap.size, 0, none⟩ = some (.slice D.pa D.pn D.pc) ∧ V.cell? ⟨w.heap.size, 1, none⟩ = some (.slice D.ra D.rn D.rc) ∧ V.cell? ⟨w.heap.size, 2, none⟩ = some (.slice D.aa D.an D.ac)) := fun V hV => by
    refine ⟨((bcell hV).1 _ _ (by rw [hW0]; simp)).trans ?_, ((bcell hV).1 _ _ (by rw [hW0]; simp)).trans ?_, ((bcell hV).1 _ _ (by rw [hW0]; simp)).trans ?_⟩ <;> (rw [hW0]; simp [go_sem])
  have HI : Hid (∀ V, Below w.heap.size w V → DIn V D) := fun V hV => h.below hV
  have HM : Hid (DLe D 4194304) := hm
  have HB1 : Hid (Below w.heap.size w w1) := hb0
  have HD : Hid (DOk D) := hd
  have hrg := h.rg
  have hgw : w.heap.size < w1.heap.size := by rw [hW0]; simp
  have hrn1 : 1 ≤ D.rn := HD.out.2.1.1
  have hrn2 : D.rn ≤ 40 := HD.out.2.1.2.1
  have hra : D.ra = some ⟨D.rb, D.roff, none⟩ := hrg (by omega)
  have hmk := makeRows D.rn (by omega)
  have HBM : Hid (Below w1.heap.size w1 (w1.alloc (.cells (madeCells z256 (D.rn * 256)) 54))) := (Below.refl _ _).alloc (Nat.le_refl _) _
  have hmr : (w1.alloc (.cells (madeCells z256 (D.rn * 256)) 54)).rowIs (w.heap.size + 1) 54 (D.rn * 256) (fun _ => .int .i64 0) := by
    have h1 := made_rows w1 D.rn
    rwa [show w1.heap.size = w.heap.size + 1 by rw [hW0]; simp] at h1
  have hgw2 : w1.heap.size ≤ w.heap.size + 1 := by rw [hW0]; simp
  have p3 := (HX.out _ HBM.out).2.1
  obtain ⟨p0, p1, p2⟩ := HX.out _ (Below.refl _ _)
  rw [dv]
  clear h hm hd
  rw [hra] at hW0 ⊢
  rw [hW0] at p0 p1 p2 p3
  have hW0' : Hid (w1 = w.alloc (.cells #[.slice D.pa D.pn D.pc, .slice (some ⟨D.rb, D.roff, none⟩) D.rn D.rc, .slice D.aa D.an D.ac] 31)) := hW0
  clear hW0
  go_enter Tryd.func31, Tryd.ntmps31
  go_wp2_with fail
  rw [← hW0'.out]
  clear hW0' hb0
  clear hmk p0 p1 p2 p3
  have HLL : Hid (∀ q, q < D.rn → D.R.n q = D.pn) := fun q hq => (HD.out.at hq).1
  have HBR : Hid (∀ V q, Below w1.heap.size w1 V → q < D.rn → Calls Tryd.prog 51 #[.slice D.pa D.pn D.pc, .slice (D.R.a q) (D.R.n q) (D.R.cap q)] V (RowRes D.pn D.P (D.R.G q) V)) := fun V q hV hq => by
    have hin := HI.out V (HB1.out.trans (hV.mono HB1.out.size))
    have hl := HLL.out q hq
    have hh := byteRow_any D.pa D.pb D.poff D.pc D.pn D.P (D.R.a q) (D.R.b q) (D.R.off q) (D.R.cap q) (D.R.G q) V hin.pg hin.p (by rw [← hl]; exact (hin.r q hq).2.1) (by rw [← hl]; exact (hin.r q hq).2.2) HM.out.p HM.out.pi HD.out.1
    rw [← hl] at hh ⊢
    exact hh
  go_loopw [13] (fun i wr => ∃ (k : Nat) (Q : Nat → Int), k ≤ D.rn ∧ i = .int .i64 k ∧ wr.rowIs (w.heap.size + 1) 54 (D.rn * 256) (fun j => .int .i64 (Q j)) ∧ Hid (∀ i, i < k → RowFit D.P (D.R.G i) (fun x => Q (i * 256 + x)) D.pn) ∧ Below w1.heap.size w1 wr) (fun i _ => D.rn - (intOf i).toNat)
  case atStart => exact ⟨0, fun _ => 0, Nat.zero_le _, rfl, hmr, fun i hi => absurd hi (Nat.not_lt_zero _), HBM.out⟩
  case round =>
    obtain ⟨k, Q, hk, rfl, hrow, HQ, hB⟩ := hrel
    by_cases hlt : k < D.rn
    · have hltz : (k : Int) < (D.rn : Int) := by omega
      obtain ⟨p0, _, _⟩ := HX.out _ hB
      have c1 := ((HI.out _ (HB1.out.trans (hB.mono HB1.out.size))).r k hlt).1
      have hgr := hrow.lt
      go_wp2_with fail
      refine (HBR.out _ k hB hlt).mono ?_
      rintro e w2 ⟨cs, F, rfl, hcF, hfit, hb2⟩
      have HF : Hid (cs.size = 256 ∧ (∀ i, i < 256 → cs[i]? = some (.int .i64 (F i))) ∧ RowFit D.P (D.R.G k) F D.pn) := ⟨hcF.1, hcF.2, hfit⟩
      have hsz : cs.size = 256 := hcF.1
      have hrow2 := row_below hrow hb2
      have hthere : w2.there (w.heap.size + 1) (k * 256) cs.size := fun j hj => by
        rw [hsz] at hj
        exact ⟨by rw [hrow2.cell (i := k * 256 + j) (by omega)]; rfl, hrow2.frozen _⟩
      have hone : cs.all (·.oneCell') = true := by
        rw [Array.all_eq_true]
        intro i hi
        have := hcF.2 i (by omega)
        rw [Array.getElem?_eq_getElem hi] at this
        rw [Option.some.inj this]
        rfl
      have hstc := run_storeCells_cells (P := Tryd.prog) (w.heap.size + 1) (k * 256) cs.toList 0 w2 (fun j hj => by simpa using (hthere j (by simpa using hj)).1) (fun j hj => by simpa using (hthere j (by simpa using hj)).2)
        (fun v hv => (Array.all_eq_true_iff_forall_mem.1 hone) v (by simpa using hv))
      simp only [Nat.add_zero] at hstc
      have HR2 : Hid (w2.rowIs (w.heap.size + 1) 54 (D.rn * 256) (fun j => .int .i64 (Q j))) := hrow2
      have HB2 : Hid (Below w1.heap.size w1 w2) := hB.trans (hb2.mono hB.size)
      clear hcF hfit hrow2 hthere hone hrow hb2 hB p0 c1
      have hlen : cs.toList.length = 256 := by rw [Array.length_toList, hsz]
      have HRN : Hid ((w2.setCells (w.heap.size + 1) (k * 256) cs.toList).rowIs (w.heap.size + 1) 54 (D.rn * 256) (fun j => .int .i64 (if k * 256 ≤ j ∧ j < k * 256 + 256 then F (j - k * 256) else Q j))) := by
        refine (row_setCells (w.heap.size + 1) 54 (D.rn * 256) cs.toList (k * 256) w2 _ HR2.out).congr (fun j hj => ?_)
        rw [hlen]
        by_cases c : k * 256 ≤ j ∧ j < k * 256 + 256
        · have h1 := HF.out.2.1 (j - k * 256) (by omega)
          rw [if_pos c, if_pos c]
          simp [List.getD, h1]
        · rw [if_neg c, if_neg c]
      have HQN : Hid (∀ i, i < k + 1 → RowFit D.P (D.R.G i) (fun x => if k * 256 ≤ i * 256 + x ∧ i * 256 + x < k * 256 + 256 then F (i * 256 + x - k * 256) else Q (i * 256 + x)) D.pn) := by
        intro i hi i' hi' x hx hs
        by_cases e : i = k
        · subst e
          show (if i * 256 ≤ i * 256 + x ∧ i * 256 + x < i * 256 + 256 then F (i * 256 + x - i * 256) else Q (i * 256 + x)) = _
          rw [if_pos (by omega), show i * 256 + x - i * 256 = x by omega]
          exact HF.out.2.2 i' hi' x hx hs
        · show (if k * 256 ≤ i * 256 + x ∧ i * 256 + x < k * 256 + 256 then F (i * 256 + x - k * 256) else Q (i * 256 + x)) = _
          rw [if_neg (by omega)]
          exact HQ.out i (by omega) i' hi' x hx hs
      have HBN : Hid (Below w1.heap.size w1 (w2.setCells (w.heap.size + 1) (k * 256) cs.toList)) := below_setCells _ hgw2 _ _ _ HB2.out
      clear hlen
      go_wp2_with fail
      go_roundw
      case rel => exact ⟨k + 1, fun j => if k * 256 ≤ j ∧ j < k * 256 + 256 then F (j - k * 256) else Q j, by omega, by go_num, HRN.out, HQN.out, HBN.out⟩
      case measure => simp [intOf]; omega
    · have hltz : ¬ (k : Int) < (D.rn : Int) := by omega
      have HQN : Hid (∀ i, i < D.rn → RowFit D.P (D.R.G i) (fun x => Q (i * 256 + x)) D.pn) := (show k = D.rn by omega) ▸ HQ.out
      go_wp2_with fail
      go_ret
      exact ⟨w.heap.size + 1, Q, rfl, by omega, hrow, HQN.out, HB1.out.trans (hB.mono HB1.out.size)⟩

end Go.Proofs.YtolddecfibdblaaDoor

