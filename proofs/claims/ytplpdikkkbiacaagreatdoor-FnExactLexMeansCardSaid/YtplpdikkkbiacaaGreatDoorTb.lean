/- the walks of toRex, toRexS -/
import Derived.Test.YtplpdikkkbiacaaGreatDoorJa
namespace Go.Proofs.YtplpdikkkbiacaaGreatDoor
open Go.RowKit
set_option linter.unusedVariables false
set_option linter.unusedSimpArgs false

/-- a block of plain cells -/
def Soft (w : World) (k : Nat) : Prop := ∃ cs t, w.heap[k]? = some (.cells cs t (0, 0))
theorem Soft.lt {w : World} {k : Nat} (h : Soft w k) : k < w.heap.size := by
  obtain ⟨cs, t, h⟩ := h
  rcases Nat.lt_or_ge k w.heap.size with h' | h'
  · exact h'
  · simp [Array.getElem?_eq_none h'] at h
theorem Soft.of_block {w w' : World} {k : Nat} (h : Soft w k) (e : w'.heap[k]? = w.heap[k]?) : Soft w' k := by
  obtain ⟨cs, t, h⟩ := h
  exact ⟨cs, t, e.trans h⟩
theorem Soft.below {w w' : World} {k : Nat} (h : Soft w k) (hb : Below w.heap.size w w') : Soft w' k := h.of_block (hb.block k h.lt)
theorem Soft.row {w : World} {b t n : Nat} {f : Nat → Value} (h : w.rowIs b t n f) : Soft w b := by
  obtain ⟨c, h, _⟩ := h
  exact ⟨c, t, h⟩

/-- the cells of a row of Rex, by their place -/
def flat3 (K : Nat → Sh) (M : Nat → Mx) (j : Nat) : Value := if j % 3 = 0 then .int .i64 (K (j / 3)).kind else if j % 3 = 1 then (M (j / 3)).sv else (M (j / 3)).kv
theorem flat3_0 (K : Nat → Sh) (M : Nat → Mx) (i : Nat) : flat3 K M (i * 3) = .int .i64 (K i).kind := by
  unfold flat3; rw [if_pos (by omega), show i * 3 / 3 = i by omega]
theorem flat3_1 (K : Nat → Sh) (M : Nat → Mx) (i : Nat) : flat3 K M (i * 3 + 1) = (M i).sv := by
  unfold flat3; rw [if_neg (by omega), if_pos (by omega), show (i * 3 + 1) / 3 = i by omega]
theorem flat3_2 (K : Nat → Sh) (M : Nat → Mx) (i : Nat) : flat3 K M (i * 3 + 2) = (M i).kv := by
  unfold flat3; rw [if_neg (by omega), if_neg (by omega), show (i * 3 + 2) / 3 = i by omega]
theorem flat3_congr {K : Nat → Sh} {M M' : Nat → Mx} {j : Nat} (h : M (j / 3) = M' (j / 3)) : flat3 K M j = flat3 K M' j := by simp only [flat3, h]
theorem Kid.of_row {w : World} {b t n i : Nat} {K : Nat → Sh} {M : Nat → Mx} (h : w.rowIs b t (n * 3) (flat3 K M)) (hi : i < n) : Kid w b (0 + i * 3) (K i) (M i) := by
  have h0 := h.cell (i := i * 3) (by omega)
  have h1 := h.cell (i := i * 3 + 1) (by omega)
  have h2 := h.cell (i := i * 3 + 2) (by omega)
  rw [flat3_0] at h0
  rw [flat3_1] at h1
  rw [flat3_2] at h2
  exact ⟨by simpa using h0, by simpa using h1, by simpa using h2⟩

theorem Tryz.info50 : (Tryz.prog.info? 50).map (fun i => (i.zero, i.size, i.bytes)) = some (some (.agg #[.int .i64 0, .slice none 0 0, .slice none 0 0]), 3, 56) := by kernel_rfl

theorem make29 (n : Nat) (hn : n ≤ 1048576) (w : World) : (Instr.makeSlice 48 (.int .i64 n) (.int .i64 n)).run Tryz.prog w = .ok (.slice (some ⟨w.heap.size, 0, none⟩) n n) (w.alloc (.cells (madeCells #[.int .i64 0, .slice none 0 0, .slice none 0 0] (n * 3)) 50)) := by
  obtain ⟨i0, hi, hz0, hz1, hz2⟩ := info_parts Tryz.info50
  have h := run_make (P := Tryz.prog) w 48 50 i0 _ Tryz.underlying48 hi hz0 .i64 .i64 n n (by omega) (by omega) (by rw [hz2]; omega) (by omega)
  rw [hz1] at h
  simpa [Value.cells] using h

/-- the cells of a new row -/
def zero3 (j : Nat) : Value := if j % 3 = 0 then .int .i64 0 else .slice none 0 0

theorem made_row3 (w : World) (n : Nat) (K : Nat → Sh) (M : Nat → Mx) : (w.alloc (.cells (madeCells #[.int .i64 0, .slice none 0 0, .slice none 0 0] (n * 3)) 50)).rowIs w.heap.size 50 (n * 3) (fun j => if j < 0 * 3 then flat3 K M j else zero3 j) := by
  have h := World.rowIs_alloc w (madeCells #[.int .i64 0, .slice none 0 0, .slice none 0 0] (n * 3)) 50 zero3 (fun i hi => by
    rw [size_madeCells] at hi
    simp only [madeCells, Array.getElem?_map]
    rw [Array.getElem?_range, if_pos hi]
    have : i % 3 = 0 ∨ i % 3 = 1 ∨ i % 3 = 2 := by omega
    rcases this with h | h | h <;> simp [h, zero3])
  rw [size_madeCells] at h
  exact h.congr (fun i _ => by simp)

theorem row_step3 {w : World} {g n k : Nat} {K : Nat → Sh} {M : Nat → Mx} {M' : Mx} {z : Nat → Value} (h : w.rowIs g 50 (n * 3) (fun j => if j < k * 3 then flat3 K M j else z j)) :
    (((w.setCell ⟨g, k * 3, none⟩ (.int .i64 (K k).kind)).setCell ⟨g, k * 3 + 1, none⟩ M'.sv).setCell ⟨g, k * 3 + 2, none⟩ M'.kv).rowIs g 50 (n * 3) (fun j => if j < (k + 1) * 3 then flat3 K (fun i => if i = k then M' else M i) j else z j) := by
  refine (((h.set (k * 3) _).set (k * 3 + 1) _).set (k * 3 + 2) _).congr (fun j _ => ?_)
  by_cases e3 : j = k * 3 + 2
  · subst e3
    rw [if_pos rfl, if_pos (by omega), flat3_2, if_pos rfl]
  · rw [if_neg e3]
    by_cases e1 : j = k * 3 + 1
    · subst e1
      rw [if_pos rfl, if_pos (by omega), flat3_1, if_pos rfl]
    · rw [if_neg e1]
      by_cases e2 : j = k * 3
      · subst e2
        rw [if_pos rfl, if_pos (by omega), flat3_0]
      · rw [if_neg e2]
        by_cases e4 : j < k * 3
        · rw [if_pos e4, if_pos (by omega)]
          exact flat3_congr (by rw [if_neg (by omega)])
        · rw [if_neg e4, if_neg (by omega)]

theorem In.slices {B : Nat → Prop} {w : World} {S : Sh} {M : Mx} (h : In B w S M) : ∃ (a : Option Addr) (n c : Nat) (a' : Option Addr) (m c' : Nat), M.sv = .slice a n c ∧ M.kv = .slice a' m c' := by
  obtain ⟨kind, n, L, H, m, K, rfl, _⟩ := Sh.cases S
  obtain ⟨a, b, off, cap, a', b', off', cap', e1, hn, hs, hl, e2, hm, hl', hk⟩ := h
  exact ⟨_, _, _, _, _, _, e1, e2⟩

theorem keep3 (w : World) (g o1 o2 o3 : Nat) (u1 u2 u3 : Value) {x : Nat} (h : x ≠ g) : (((w.setCell ⟨g, o1, none⟩ u1).setCell ⟨g, o2, none⟩ u2).setCell ⟨g, o3, none⟩ u3).heap[x]? = w.heap[x]? := by
  rw [Below.heap_setCell _ _ _ _ h, Below.heap_setCell _ _ _ _ h, Below.heap_setCell _ _ _ _ h]
theorem Soft.set {w : World} {k : Nat} (h : Soft w k) (p : Addr) (u : Value) : Soft (w.setCell p u) k := by
  by_cases e : k = p.block
  · obtain ⟨cs, t, h⟩ := h
    subst e
    simp [Soft, World.setCell, Array.getElem?_modify, h]
  · exact h.of_block (Below.heap_setCell _ _ _ _ e)
theorem Soft.set3 {w : World} {k : Nat} (h : Soft w k) {p q r : Addr} {u v t : Value} : Soft (((w.setCell p u).setCell q v).setCell r t) k := ((h.set p u).set q v).set r t

/-- what toRex tells of a Rex -/
def ToRes (S : Sh) (w : World) (e : Ending) (w' : World) : Prop := ∃ M, e = .returned (vx S M) ∧ In (fun k => w.heap.size ≤ k ∧ Soft w' k) w' S M ∧ Below w.heap.size w w'

set_option maxHeartbeats 1000000 in
theorem toRexS_of (m : Nat) (K : Nat → Sh) (M : Nat → Mx) (hm : m ≤ 1048576)
    (ih : ∀ i, i < m → ∀ (w : World), In AnyB w (K i) (M i) → Calls Tryz.prog 32 #[vx (K i) (M i)] w (ToRes (K i) w))
    (a : Option Addr) (b off cap : Nat) (w : World) (hga : 0 < m → a = some ⟨b, off, none⟩) (hk : ∀ i, i < m → Kid w b (off + i * 3) (K i) (M i) ∧ In AnyB w (K i) (M i)) :
    Calls Tryz.prog 45 #[.slice a m cap] w fun e w' => ∃ M', e = .returned (.slice (some ⟨w.heap.size, 0, none⟩) m m) ∧ w'.rowIs w.heap.size 50 (m * 3) (flat3 K M') ∧ (∀ i, i < m → In (fun k => w.heap.size < k ∧ Soft w' k) w' (K i) (M' i)) ∧ Below w.heap.size w w' := by
  have hmk := make29 m hm
  go_enter Tryz.func45, Tryz.ntmps45
  go_wp2_with fail
  clear hmk
  go_loopw [4] (fun i wr => ∃ (k : Nat) (Mf : Nat → Mx), k ≤ m ∧ i = .int .i64 k ∧ wr.rowIs w.heap.size 50 (m * 3) (fun j => if j < k * 3 then flat3 K Mf j else zero3 j) ∧ (∀ i, i < k → In (fun x => w.heap.size < x ∧ Soft wr x) wr (K i) (Mf i)) ∧ Below w.heap.size w wr)
    (fun i _ => m - (intOf i).toNat)
  case atStart => exact ⟨0, fun _ => .no, Nat.zero_le _, rfl, made_row3 w m K _, fun i hi => absurd hi (Nat.not_lt_zero _), (Below.refl _ _).alloc (Nat.le_refl _) _⟩
  case round =>
    obtain ⟨k, Mf, hk', rfl, hrow, hins, hB⟩ := hrel
    by_cases hlt : k < m
    · obtain rfl := hga (by omega)
      have hltz : (k : Int) < (m : Int) := by omega
      obtain ⟨⟨c1, c2, c3⟩, hin⟩ := hk k hlt
      have d1 : wr.cell? ⟨b, off + k * 3, none⟩ = _ := (hB.cell (p := ⟨b, _, none⟩) (World.block_lt_of_cell? _ _ c1)).trans c1
      have d2 : wr.cell? ⟨b, off + k * 3 + 1, none⟩ = _ := (hB.cell (p := ⟨b, _, none⟩) (World.block_lt_of_cell? _ _ c2)).trans c2
      have d3 : wr.cell? ⟨b, off + k * 3 + 2, none⟩ = _ := (hB.cell (p := ⟨b, _, none⟩) (World.block_lt_of_cell? _ _ c3)).trans c3
      have HC : Hid (Calls Tryz.prog 32 #[vx (K k) (M k)] wr (ToRes (K k) wr)) := ih k hlt wr (hin.below hB)
      have HI : Hid (∀ i, i < k → In (fun x => w.heap.size < x ∧ Soft wr x) wr (K i) (Mf i)) := hins
      clear c1 c2 c3 hins
      go_wp2_with fail
      refine HC.out.mono ?_
      rintro e w1 ⟨M1, rfl, hin1, hb1⟩
      have hrow1 := row_below hrow hb1
      obtain ⟨sa, sn, sc, ka, km, kc, es, ek⟩ := hin1.slices
      have HR : Hid _ := row_step3 (M' := M1) hrow1
      rw [es, ek] at HR
      have HES : Hid (vx (K k) M1 = .agg #[.int .i64 (K k).kind, .slice sa sn sc, .slice ka km kc]) := by rw [Hid, vx, es, ek]
      have HIN : Hid _ := hin1
      rw [HES.out]
      clear es ek hin1
      have e1 := hrow1.cell (i := k * 3) (by omega)
      have e2 := hrow1.cell (i := k * 3 + 1) (by omega)
      have e3 := hrow1.cell (i := k * 3 + 2) (by omega)
      have f1 := hrow1.frozen (k * 3)
      have f2 := hrow1.frozen (k * 3 + 1)
      have f3 := hrow1.frozen (k * 3 + 2)
      go_wp2_with fail
      go_roundw
      case rel =>
        refine ⟨k + 1, _, by omega, by go_num, HR.out, fun i hi => ?_, (((hB.trans (hb1.mono hB.size)).setCell (by simp) _).setCell (by simp) _).setCell (by simp) _⟩
        have hgs : w.heap.size < wr.heap.size := hrow.lt
        refine In.mono (B := fun x => w.heap.size < x ∧ Soft w1 x) (fun x hx => ⟨hx.1, hx.2.set3⟩) (In.keep (w := w1) (fun x hx _ => keep3 _ _ _ _ _ _ _ _ (by omega)) ?_)
        by_cases hik : i = k
        · subst hik
          rw [if_pos rfl]
          exact HIN.out.mono (fun x hx => ⟨by omega, hx.2⟩)
        · rw [if_neg hik]
          exact ((HI.out i (by omega)).below hb1).mono (fun x hx => ⟨hx.1, hx.2.below hb1⟩)
      case measure => simp [intOf]; omega
    · go_wp2_with fail
      go_ret
      obtain rfl : k = m := by omega
      exact ⟨Mf, rfl, hrow.congr (fun j hj => by rw [if_pos hj]), hins, hB⟩
end Go.Proofs.YtplpdikkkbiacaaGreatDoor

