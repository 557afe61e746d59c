/- the walks of toSpanSS, toIntS, toIntSS, toDfa -/
import Derived.Test.YtolddecfibdblaaDoorJb
namespace Go.Proofs.YtolddecfibdblaaDoor
open Go.RowKit
set_option linter.unusedVariables false
set_option linter.unusedSimpArgs false

theorem Tryd.infoSS : (Tryd.prog.info? 72).map (fun i => (i.zero, i.size, i.bytes)) = some (some (.slice none 0 0), 1, 24) := by kernel_rfl
theorem Tryd.infoIS : (Tryd.prog.info? 24).map (fun i => (i.zero, i.size, i.bytes)) = some (some (.slice none 0 0), 1, 24) := by kernel_rfl
theorem Tryd.infoI : (Tryd.prog.info? 3).map (fun i => (i.zero, i.size, i.bytes)) = some (some (.int .i64 0), 1, 8) := by kernel_rfl

theorem makeSS (n : Nat) (hn : n ≤ 1048576) (w : World) : (Instr.makeSlice 29 (.int .i64 n) (.int .i64 n)).run Tryd.prog w = .ok (.slice (some ⟨w.heap.size, 0, none⟩) n n) (w.alloc (.cells (madeCells #[.slice none 0 0] n) 72)) := by
  obtain ⟨i0, hi, hz0, hz1, hz2⟩ := info_parts Tryd.infoSS
  have h := run_make (P := Tryd.prog) w 29 72 i0 _ Tryd.underlying29 hi hz0 .i64 .i64 n n (by omega) (by omega) (by rw [hz2]; omega) (by omega)
  rw [hz1] at h
  simpa [Value.cells] using h
theorem makeIS (n : Nat) (hn : n ≤ 1048576) (w : World) : (Instr.makeSlice 23 (.int .i64 n) (.int .i64 n)).run Tryd.prog w = .ok (.slice (some ⟨w.heap.size, 0, none⟩) n n) (w.alloc (.cells (madeCells #[.slice none 0 0] n) 24)) := by
  obtain ⟨i0, hi, hz0, hz1, hz2⟩ := info_parts Tryd.infoIS
  have h := run_make (P := Tryd.prog) w 23 24 i0 _ Tryd.underlying23 hi hz0 .i64 .i64 n n (by omega) (by omega) (by rw [hz2]; omega) (by omega)
  rw [hz1] at h
  simpa [Value.cells] using h
theorem makeI (n : Nat) (hn : n ≤ 1048576) (w : World) : (Instr.makeSlice 24 (.int .i64 n) (.int .i64 n)).run Tryd.prog w = .ok (.slice (some ⟨w.heap.size, 0, none⟩) n n) (w.alloc (.cells (madeCells #[.int .i64 0] n) 3)) := by
  obtain ⟨i0, hi, hz0, hz1, hz2⟩ := info_parts Tryd.infoI
  have h := run_make (P := Tryd.prog) w 24 3 i0 _ Tryd.underlying24 hi hz0 .i64 .i64 n n (by omega) (by omega) (by rw [hz2]; omega) (by omega)
  rw [hz1] at h
  simpa [Value.cells] using h

theorem made_one (w : World) (n : Nat) (t : TypeId) (z : Value) (f : Nat → Value) : (w.alloc (.cells (madeCells #[z] n) t)).rowIs w.heap.size t n (fun j => if j < 0 then f j else z) := by
  have h := World.rowIs_alloc w (madeCells #[z] n) t (fun _ => z) (fun i hi => by
    rw [size_madeCells] at hi
    simp only [madeCells, Array.getElem?_map]
    rw [Array.getElem?_range, if_pos hi]
    simp [Nat.mod_one])
  rw [size_madeCells] at h
  exact h.congr (fun i _ => by simp)
theorem row_one_step {w : World} {b n k : Nat} {t : TypeId} {z : Value} {f : Nat → Value} (h : w.rowIs b t n (fun j => if j < k then f j else z)) (v : Value) :
    (w.setCell ⟨b, k, none⟩ v).rowIs b t n (fun j => if j < k + 1 then (if j = k then v else f j) else z) := by
  refine (h.set k _).congr (fun j _ => ?_)
  by_cases e1 : j = k
  · subst e1
    rw [if_pos rfl, if_pos (by omega), if_pos rfl]
  · rw [if_neg e1]
    by_cases e3 : j < k
    · rw [if_pos e3, if_pos (by omega), if_neg e1]
    · rw [if_neg e3, if_neg (by omega)]

/-- G with v at k -/
def upd (G : Nat → Nat) (k v : Nat) (j : Nat) : Nat := if j = k then v else G j
theorem upd_at (G : Nat → Nat) (k v : Nat) : upd G k v k = v := if_pos rfl
theorem upd_ne (G : Nat → Nat) (k v : Nat) {j : Nat} (h : j ≠ k) : upd G k v j = G j := if_neg h

/-- a list of sets of one's own: the outer row in block B, set i in block G i -/
def Copy (w : World) (B n : Nat) (N : Nest) (G : Nat → Nat) : Prop :=
  w.rowIs B 72 n (fun i => .slice (some ⟨G i, 0, none⟩) (N.n i) (N.n i)) ∧ ∀ i, i < n → B < G i ∧ w.rowIs (G i) 87 (N.n i * 2) (flat (N.L i) (N.H i)) ∧ ∀ j, j < i → G j < G i
/-- what comes of copying a list of sets -/
def ToSSRes (n : Nat) (N : Nest) (w : World) (e : Ending) (w' : World) : Prop :=
  e = .returned (.slice (some ⟨w.heap.size, 0, none⟩) n n) ∧ (∃ G, Copy w' w.heap.size n N G) ∧ Below w.heap.size w w'

set_option maxHeartbeats 1000000 in
theorem toSS_any (a : Option Addr) (b off cap n : Nat) (N : Nest) (w : World) (hga : 0 < n → a = some ⟨b, off, none⟩) (hc : SS w b off n N) (hn : n ≤ 1048576) (hm : ∀ i, i < n → N.n i ≤ 1048576) :
    Calls Tryd.prog 27 #[.slice a n cap] w (ToSSRes n N w) := by
  have hmk := makeSS n hn
  go_enter Tryd.func27, Tryd.ntmps27
  go_wp2
  clear hmk
  go_loopw [4] (fun i wr => ∃ (k : Nat) (G : Nat → Nat), k ≤ n ∧ i = .int .i64 k ∧ wr.rowIs w.heap.size 72 n (fun j => if j < k then .slice (some ⟨G j, 0, none⟩) (N.n j) (N.n j) else .slice none 0 0) ∧ Hid (∀ i, i < k → w.heap.size < G i ∧ wr.rowIs (G i) 87 (N.n i * 2) (flat (N.L i) (N.H i)) ∧ ∀ j, j < i → G j < G i) ∧ Below w.heap.size w wr) (fun i _ => n - (intOf i).toNat)
  case atStart => exact ⟨0, fun _ => 0, Nat.zero_le _, rfl, made_one w n _ _ _, fun i hi => by omega, (Below.refl _ _).alloc (Nat.le_refl _) _⟩
  case round =>
    obtain ⟨k, G, hk, rfl, hrow, HG, hB⟩ := hrel
    by_cases hlt : k < n
    · obtain rfl := hga (by omega)
      have hltz : (k : Int) < (n : Int) := by omega
      obtain ⟨c1, g1, s1⟩ := (hc.below hB) k hlt
      go_wp2_with fail
      refine (toSpanS_any (N.a k) (N.b k) (N.off k) (N.cap k) (N.n k) (N.L k) (N.H k) _ g1 s1 (hm k hlt)).mono ?_
      rintro e w1 ⟨rfl, hr1, hb1⟩
      have hrow1 := row_below hrow hb1
      have hBs := hrow.lt
      have e1 := hrow1.cell (i := k) (by omega)
      have f1 := hrow1.frozen k
      have HG1 : Hid (∀ i, i < k → w.heap.size < G i ∧ G i < wr.heap.size ∧ w1.rowIs (G i) 87 (N.n i * 2) (flat (N.L i) (N.H i)) ∧ ∀ j, j < i → G j < G i) := fun i hi => ⟨(HG.out i hi).1, (HG.out i hi).2.1.lt, row_below (HG.out i hi).2.1 hb1, (HG.out i hi).2.2⟩
      have HR1 : Hid (w1.rowIs wr.heap.size 87 (N.n k * 2) (flat (N.L k) (N.H k))) := hr1
      have HW : Hid (w1.rowIs w.heap.size 72 n (fun j => if j < k then .slice (some ⟨G j, 0, none⟩) (N.n j) (N.n j) else .slice none 0 0)) := hrow1
      clear hrow hrow1 HG hr1 c1
      go_wp2
      go_roundw
      case rel =>
        refine ⟨k + 1, upd G k wr.heap.size, by omega, by go_num, (row_one_step HW.out _).congr (fun j _ => ?_), fun i hi => ?_, (hB.trans (hb1.mono hB.size)).setCell (by simp) _⟩
        · by_cases e1 : j < k + 1
          · rw [if_pos e1, if_pos e1]
            by_cases e2 : j = k
            · subst e2; rw [if_pos rfl, upd_at]
            · rw [if_neg e2, upd_ne _ _ _ e2]
          · rw [if_neg e1, if_neg e1]
        · by_cases e2 : i = k
          · subst e2
            rw [upd_at]
            refine ⟨hBs, HR1.out.of_block (Below.heap_setCell _ _ _ _ (by simp; omega)), fun j hj => ?_⟩
            rw [upd_ne _ _ _ (by omega)]
            exact (HG1.out j hj).2.1
          · obtain ⟨q1, q2, q3, q4⟩ := HG1.out i (by omega)
            rw [upd_ne _ _ _ e2]
            refine ⟨q1, q3.of_block (Below.heap_setCell _ _ _ _ (by simp; omega)), fun j hj => ?_⟩
            rw [upd_ne _ _ _ (by omega)]
            exact q4 j hj
      case measure => simp [intOf]; omega
    · have hltz : ¬ ((k : Int) < (n : Int)) := by omega
      obtain rfl : k = n := by omega
      go_wp2
      go_ret
      exact ⟨rfl, ⟨G, hrow.congr (fun j hj => by rw [if_pos hj]), HG.out⟩, hB⟩

set_option maxHeartbeats 400000 in
theorem toI_any (a : Option Addr) (b off cap n : Nat) (G : Nat → Int) (w : World) (hga : 0 < n → a = some ⟨b, off, none⟩) (hc : Ip w b off n G) (hn : n ≤ 1048576) :
    Calls Tryd.prog 29 #[.slice a n cap] w fun e w' => e = .returned (.slice (some ⟨w.heap.size, 0, none⟩) n n) ∧ w'.rowIs w.heap.size 3 n (fun j => .int .i64 (G j)) ∧ Below w.heap.size w w' := by
  have hmk := makeI n hn
  go_enter Tryd.func29, Tryd.ntmps29
  go_wp2
  clear hmk
  go_loopw [4] (fun i wr => ∃ k : Nat, k ≤ n ∧ i = .int .i64 k ∧ wr.rowIs w.heap.size 3 n (fun j => if j < k then .int .i64 (G j) else .int .i64 0) ∧ Below w.heap.size w wr)
    (fun i _ => n - (intOf i).toNat)
  case atStart => exact ⟨0, Nat.zero_le _, rfl, made_one w n _ _ _, (Below.refl _ _).alloc (Nat.le_refl _) _⟩
  case round =>
    obtain ⟨k, hk, rfl, hrow, hB⟩ := hrel
    by_cases hlt : k < n
    · obtain rfl := hga (by omega)
      have hltz : (k : Int) < (n : Int) := by omega
      have d1 := (hc.below hB) k hlt
      have e1 := hrow.cell (i := k) (by omega)
      have f1 := hrow.frozen k
      have HW : Hid (wr.rowIs w.heap.size 3 n (fun j => if j < k then .int .i64 (G j) else .int .i64 0)) := hrow
      clear hrow
      go_wp2_with fail
      go_roundw
      case rel =>
        refine ⟨k + 1, by omega, by go_num, (row_one_step HW.out _).congr (fun j _ => ?_), hB.setCell (by simp) _⟩
        by_cases e1 : j < k + 1
        · rw [if_pos e1, if_pos e1]
          by_cases e2 : j = k
          · subst e2; rw [if_pos rfl]
          · rw [if_neg e2]
        · rw [if_neg e1, if_neg e1]
      case measure => simp [intOf]; omega
    · have hltz : ¬ ((k : Int) < (n : Int)) := by omega
      go_wp2
      go_ret
      obtain rfl : k = n := by omega
      exact ⟨rfl, hrow.congr (fun j hj => by rw [if_pos hj]), hB⟩

/-- a list of lists of one's own -/
def CopyI (w : World) (B n : Nat) (N : Nsi) (G : Nat → Nat) : Prop :=
  w.rowIs B 24 n (fun i => .slice (some ⟨G i, 0, none⟩) (N.n i) (N.n i)) ∧ ∀ i, i < n → B < G i ∧ w.rowIs (G i) 3 (N.n i) (fun j => .int .i64 (N.G i j)) ∧ ∀ j, j < i → G j < G i
/-- what comes of copying a list of lists -/
def ToISRes (n : Nat) (N : Nsi) (w : World) (e : Ending) (w' : World) : Prop :=
  e = .returned (.slice (some ⟨w.heap.size, 0, none⟩) n n) ∧ (∃ G, CopyI w' w.heap.size n N G) ∧ Below w.heap.size w w'

set_option maxHeartbeats 1000000 in
theorem toIS_any (a : Option Addr) (b off cap n : Nat) (N : Nsi) (w : World) (hga : 0 < n → a = some ⟨b, off, none⟩) (hc : IS w b off n N) (hn : n ≤ 1048576) (hm : ∀ i, i < n → N.n i ≤ 1048576) :
    Calls Tryd.prog 28 #[.slice a n cap] w (ToISRes n N w) := by
  have hmk := makeIS n hn
  go_enter Tryd.func28, Tryd.ntmps28
  go_wp2
  clear hmk
  go_loopw [4] (fun i wr => ∃ (k : Nat) (G : Nat → Nat), k ≤ n ∧ i = .int .i64 k ∧ wr.rowIs w.heap.size 24 n (fun j => if j < k then .slice (some ⟨G j, 0, none⟩) (N.n j) (N.n j) else .slice none 0 0) ∧ Hid (∀ i, i < k → w.heap.size < G i ∧ wr.rowIs (G i) 3 (N.n i) (fun j => .int .i64 (N.G i j)) ∧ ∀ j, j < i → G j < G i) ∧ Below w.heap.size w wr) (fun i _ => n - (intOf i).toNat)
  case atStart => exact ⟨0, fun _ => 0, Nat.zero_le _, rfl, made_one w n _ _ _, fun i hi => by omega, (Below.refl _ _).alloc (Nat.le_refl _) _⟩
  case round =>
    obtain ⟨k, G, hk, rfl, hrow, HG, hB⟩ := hrel
    by_cases hlt : k < n
    · obtain rfl := hga (by omega)
      have hltz : (k : Int) < (n : Int) := by omega
      obtain ⟨c1, g1, s1⟩ := (hc.below hB) k hlt
      go_wp2_with fail
      refine (toI_any (N.a k) (N.b k) (N.off k) (N.cap k) (N.n k) (N.G k) _ g1 s1 (hm k hlt)).mono ?_
      rintro e w1 ⟨rfl, hr1, hb1⟩
      have hrow1 := row_below hrow hb1
      have hBs := hrow.lt
      have e1 := hrow1.cell (i := k) (by omega)
      have f1 := hrow1.frozen k
      have HG1 : Hid (∀ i, i < k → w.heap.size < G i ∧ G i < wr.heap.size ∧ w1.rowIs (G i) 3 (N.n i) (fun j => .int .i64 (N.G i j)) ∧ ∀ j, j < i → G j < G i) := fun i hi => ⟨(HG.out i hi).1, (HG.out i hi).2.1.lt, row_below (HG.out i hi).2.1 hb1, (HG.out i hi).2.2⟩
      have HR1 : Hid (w1.rowIs wr.heap.size 3 (N.n k) (fun j => .int .i64 (N.G k j))) := hr1
      have HW : Hid (w1.rowIs w.heap.size 24 n (fun j => if j < k then .slice (some ⟨G j, 0, none⟩) (N.n j) (N.n j) else .slice none 0 0)) := hrow1
      clear hrow hrow1 HG hr1 c1
      go_wp2
      go_roundw
      case rel =>
        refine ⟨k + 1, upd G k wr.heap.size, by omega, by go_num, (row_one_step HW.out _).congr (fun j _ => ?_), fun i hi => ?_, (hB.trans (hb1.mono hB.size)).setCell (by simp) _⟩
        · by_cases e1 : j < k + 1
          · rw [if_pos e1, if_pos e1]
            by_cases e2 : j = k
            · subst e2; rw [if_pos rfl, upd_at]
            · rw [if_neg e2, upd_ne _ _ _ e2]
          · rw [if_neg e1, if_neg e1]
        · by_cases e2 : i = k
          · subst e2
            rw [upd_at]
            refine ⟨hBs, HR1.out.of_block (Below.heap_setCell _ _ _ _ (by simp; omega)), fun j hj => ?_⟩
            rw [upd_ne _ _ _ (by omega)]
            exact (HG1.out j hj).2.1
          · obtain ⟨q1, q2, q3, q4⟩ := HG1.out i (by omega)
            rw [upd_ne _ _ _ e2]
            refine ⟨q1, q3.of_block (Below.heap_setCell _ _ _ _ (by simp; omega)), fun j hj => ?_⟩
            rw [upd_ne _ _ _ (by omega)]
            exact q4 j hj
      case measure => simp [intOf]; omega
    · have hltz : ¬ ((k : Int) < (n : Int)) := by omega
      obtain rfl : k = n := by omega
      go_wp2
      go_ret
      exact ⟨rfl, ⟨G, hrow.congr (fun j hj => by rw [if_pos hj]), HG.out⟩, hB⟩

/-- a list of sets, as it was copied -/
def cpN (N : Nest) (G : Nat → Nat) : Nest := { N with a := fun i => some ⟨G i, 0, none⟩, b := G, off := fun _ => 0, cap := N.n }
theorem Copy.ss {w : World} {B n : Nat} {N : Nest} {G : Nat → Nat} (h : Copy w B n N G) : SS w B 0 n (cpN N G) :=
  fun i hi => ⟨by have := h.1.cell hi; simpa [cpN] using this, fun _ => rfl, Sp.of_row (h.2 i hi).2.1⟩
/-- a list of lists, as it was copied -/
def cpI (N : Nsi) (G : Nat → Nat) : Nsi := { N with a := fun i => some ⟨G i, 0, none⟩, b := G, off := fun _ => 0, cap := N.n }
theorem CopyI.is {w : World} {B n : Nat} {N : Nsi} {G : Nat → Nat} (h : CopyI w B n N G) : IS w B 0 n (cpI N G) :=
  fun i hi => ⟨by have := h.1.cell hi; simpa [cpI] using this, fun _ => rfl, Ip.of_row (h.2 i hi).2.1⟩

/-- what comes of copying a machine -/
def ToD (D : Dx) (w : World) (e : Ending) (w' : World) : Prop := ∃ D', e = .returned (dv D') ∧ DIn w' D' ∧ DEq D D' ∧ Below w.heap.size w w'
theorem Copy.keep {w w' : World} {B n : Nat} {N : Nest} {G : Nat → Nat} (h : Copy w B n N G) (e : ∀ x, B ≤ x → x < w.heap.size → w'.heap[x]? = w.heap[x]?) : Copy w' B n N G :=
  ⟨h.1.of_block (e _ (Nat.le_refl _) h.1.lt), fun i hi => ⟨(h.2 i hi).1, (h.2 i hi).2.1.of_block (e _ (Nat.le_of_lt (h.2 i hi).1) (h.2 i hi).2.1.lt), (h.2 i hi).2.2⟩⟩
theorem CopyI.keep {w w' : World} {B n : Nat} {N : Nsi} {G : Nat → Nat} (h : CopyI w B n N G) (e : ∀ x, B ≤ x → x < w.heap.size → w'.heap[x]? = w.heap[x]?) : CopyI w' B n N G :=
  ⟨h.1.of_block (e _ (Nat.le_refl _) h.1.lt), fun i hi => ⟨(h.2 i hi).1, (h.2 i hi).2.1.of_block (e _ (Nat.le_of_lt (h.2 i hi).1) (h.2 i hi).2.1.lt), (h.2 i hi).2.2⟩⟩
theorem ToD.mk' {D : Dx} {w w4 : World} {B1 B2 B3 : Nat} {G1 G2 : Nat → Nat} (h1 : Copy w4 B1 D.pn D.P G1) (h2 : CopyI w4 B2 D.rn D.R G2) (h3 : w4.rowIs B3 3 D.an (fun j => .int .i64 (D.A j)))
    (hb : Below w.heap.size w w4) :
    ToD D w (.returned (.agg #[.slice (some ⟨B1, 0, none⟩) D.pn D.pn, .slice (some ⟨B2, 0, none⟩) D.rn D.rn, .slice (some ⟨B3, 0, none⟩) D.an D.an])) w4 :=
  ⟨{ pa := some ⟨B1, 0, none⟩, pb := B1, poff := 0, pc := D.pn, pn := D.pn, P := cpN D.P G1, ra := some ⟨B2, 0, none⟩, rb := B2, roff := 0, rc := D.rn, rn := D.rn, R := cpI D.R G2, aa := some ⟨B3, 0, none⟩, ab := B3, aoff := 0, ac := D.an, an := D.an, A := D.A },
    rfl, ⟨fun _ => rfl, h1.ss, fun _ => rfl, h2.is, fun _ => rfl, Ip.of_row h3⟩, ⟨⟨rfl, fun _ _ => ⟨rfl, fun _ _ => ⟨rfl, rfl⟩⟩⟩, ⟨rfl, fun _ _ => ⟨rfl, fun _ _ => rfl⟩⟩, ⟨rfl, fun _ _ => rfl⟩⟩, hb⟩
end Go.Proofs.YtolddecfibdblaaDoor

