/- the walks of toRule, toRuleS -/
import Derived.Test.YtplpdikkkbiacaaGreatDoorUb
namespace Go.Proofs.YtplpdikkkbiacaaGreatDoor
open Go.RowKit
set_option linter.unusedVariables false
set_option linter.unusedSimpArgs false

/-- what toRule tells of a rule -/
def ToRule (s : ByteArray) (S : Sh) (w : World) (e : Ending) (w' : World) : Prop := ∃ M, e = .returned (rv s S M) ∧ In (fun k => w.heap.size ≤ k ∧ Soft w' k) w' S M ∧ Below w.heap.size w w'

set_option maxHeartbeats 1000000 in
theorem toRule_any (s : ByteArray) (S : Sh) (M : Mx) (w : World) (hT : In AnyB w S M) (hcnt : cnt S ≤ 1048576) :
    Calls Tryz.prog 17 #[rv s S M] w (ToRule s S w) := by
  obtain ⟨a, n, c, a', m, c', es, ek⟩ := hT.slices
  have H1 : Hid (∀ w1, Below w.heap.size w w1 → Calls Tryz.prog 32 #[vx S M] w1 (ToRes S w1)) := fun w1 hb1 => toRex_any S M w1 (hT.below hb1) hcnt
  rw [vx, es, ek] at H1
  rw [rv, es, ek]
  clear es ek hT
  go_enter Tryz.func17, Tryz.ntmps17
  go_wp2_with fail
  refine (H1.out _ (by repeat (first | exact Below.refl _ _ | refine Below.alloc ?_ (by simp <;> omega) _ | refine Below.setCell ?_ (by simp <;> omega) _))).mono ?_
  rintro e w1 ⟨M1, rfl, hin1, hb1⟩
  obtain ⟨hc1, hf1⟩ := bcell hb1
  have hz1 : w.heap.size + 3 ≤ w1.heap.size := by have := hb1.size; simp at this; omega
  have t0 : w1.cell? ⟨w.heap.size + 1 + 1, 0, none⟩ = some (.string s) := by rw [hc1 _ _ (by simp <;> omega)]; simp [go_sem]
  have t1 : w1.cell? ⟨w.heap.size + 1 + 1, 1, none⟩ = some (.int .i64 0) := by rw [hc1 _ _ (by simp <;> omega)]; simp [go_sem]
  have t2 : w1.cell? ⟨w.heap.size + 1 + 1, 2, none⟩ = some (.slice none 0 0) := by rw [hc1 _ _ (by simp <;> omega)]; simp [go_sem]
  have t3 : w1.cell? ⟨w.heap.size + 1 + 1, 3, none⟩ = some (.slice none 0 0) := by rw [hc1 _ _ (by simp <;> omega)]; simp [go_sem]
  have r0 : w1.cell? ⟨w.heap.size + 1, 0, none⟩ = some (.string ⟨#[]⟩) := by rw [hc1 _ _ (by simp <;> omega)]; simp [go_sem]
  have r1 : w1.cell? ⟨w.heap.size + 1, 1, none⟩ = some (.int .i64 0) := by rw [hc1 _ _ (by simp <;> omega)]; simp [go_sem]
  have r2 : w1.cell? ⟨w.heap.size + 1, 2, none⟩ = some (.slice none 0 0) := by rw [hc1 _ _ (by simp <;> omega)]; simp [go_sem]
  have r3 : w1.cell? ⟨w.heap.size + 1, 3, none⟩ = some (.slice none 0 0) := by rw [hc1 _ _ (by simp <;> omega)]; simp [go_sem]
  have ft : ∀ o, w1.frozen? ⟨w.heap.size + 1 + 1, o, none⟩ = false := fun o => by rw [hf1 _ _ (by simp <;> omega)]; simp [go_sem]
  have fr : ∀ o, w1.frozen? ⟨w.heap.size + 1, o, none⟩ = false := fun o => by rw [hf1 _ _ (by simp <;> omega)]; simp [go_sem]
  obtain ⟨sa, sn, sc, ka, km, kc, es, ek⟩ := hin1.slices
  have HES : Hid (vx S M1 = .agg #[.int .i64 S.kind, .slice sa sn sc, .slice ka km kc]) := by rw [Hid, vx, es, ek]
  have HER : Hid (rv s S M1 = .agg #[.string s, .int .i64 S.kind, .slice sa sn sc, .slice ka km kc]) := by rw [Hid, rv, es, ek]
  have HI1 : Hid (In (fun k => w.heap.size + 1 + 1 + 1 ≤ k ∧ Soft w1 k) w1 S M1) := by
    refine hin1.mono (fun k hk => ⟨?_, hk.2⟩)
    have := hk.1; simp at this; omega
  have HB1 : Hid (Below w.heap.size w w1) := Below.trans (by repeat (first | exact Below.refl _ _ | refine Below.alloc ?_ (by simp <;> omega) _ | refine Below.setCell ?_ (by simp <;> omega) _)) (hb1.mono (by simp; omega))
  rw [HES.out]
  clear hc1 hf1 es ek hin1 HES hb1
  go_wp2_with fail
  obtain ⟨W3, hW3⟩ : ∃ W3, (((((((w1.setCell ⟨w.heap.size + 1 + 1, 1, none⟩ (.int .i64 S.kind)).setCell ⟨w.heap.size + 1 + 1, 2, none⟩ (.slice sa sn sc)).setCell ⟨w.heap.size + 1 + 1, 3, none⟩ (.slice ka km kc)).setCell ⟨w.heap.size + 1, 0, none⟩ (.string s)).setCell ⟨w.heap.size + 1, 1, none⟩ (.int .i64 S.kind)).setCell ⟨w.heap.size + 1, 2, none⟩ (.slice sa sn sc)).setCell ⟨w.heap.size + 1, 3, none⟩ (.slice ka km kc)) = W3 := ⟨_, rfl⟩
  refine bodyPost_ret (v := .agg #[.string s, .int .i64 S.kind, .slice sa sn sc, .slice ka km kc]) (by simp [results, Tryz.results17, go_sem, r0, r1, r2, r3]) rfl ?_
  rw [hW3]
  have hks : ∀ x, w.heap.size + 1 + 1 < x → W3.heap[x]? = w1.heap[x]? := fun x hx => by
    rw [← hW3]
    rw [Below.heap_setCell _ _ _ _ (by simp; omega), Below.heap_setCell _ _ _ _ (by simp; omega), Below.heap_setCell _ _ _ _ (by simp; omega), Below.heap_setCell _ _ _ _ (by simp; omega), Below.heap_setCell _ _ _ _ (by simp; omega), Below.heap_setCell _ _ _ _ (by simp; omega), Below.heap_setCell _ _ _ _ (by simp; omega)]
  refine ⟨M1, by rw [HER.out], ?_, ?_⟩
  · exact In.mono (B := fun k => w.heap.size + 1 + 1 + 1 ≤ k ∧ Soft w1 k) (fun x hx => ⟨by omega, hx.2.of_block (hks x (by omega))⟩) (In.keep (w := w1) (fun x hx _ => hks x (by omega)) HI1.out)
  · rw [← hW3]
    exact ((((((HB1.out.setCell (by simp; omega) _).setCell (by simp; omega) _).setCell (by simp; omega) _).setCell (by simp) _).setCell (by simp) _).setCell (by simp) _).setCell (by simp) _

/-- the cells of a row of rules, by their place -/
def flat4 (N : Nat → ByteArray) (K : Nat → Sh) (M : Nat → Mx) (j : Nat) : Value := if j % 4 = 0 then .string (N (j / 4)) else if j % 4 = 1 then .int .i64 (K (j / 4)).kind else if j % 4 = 2 then (M (j / 4)).sv else (M (j / 4)).kv
theorem flat4_0 (N : Nat → ByteArray) (K : Nat → Sh) (M : Nat → Mx) (i : Nat) : flat4 N K M (i * 4) = .string (N i) := by
  unfold flat4; rw [if_pos (by omega), show i * 4 / 4 = i by omega]
theorem flat4_1 (N : Nat → ByteArray) (K : Nat → Sh) (M : Nat → Mx) (i : Nat) : flat4 N K M (i * 4 + 1) = .int .i64 (K i).kind := by
  unfold flat4; rw [if_neg (by omega), if_pos (by omega), show (i * 4 + 1) / 4 = i by omega]
theorem flat4_2 (N : Nat → ByteArray) (K : Nat → Sh) (M : Nat → Mx) (i : Nat) : flat4 N K M (i * 4 + 2) = (M i).sv := by
  unfold flat4; rw [if_neg (by omega), if_neg (by omega), if_pos (by omega), show (i * 4 + 2) / 4 = i by omega]
theorem flat4_3 (N : Nat → ByteArray) (K : Nat → Sh) (M : Nat → Mx) (i : Nat) : flat4 N K M (i * 4 + 3) = (M i).kv := by
  unfold flat4; rw [if_neg (by omega), if_neg (by omega), if_neg (by omega), show (i * 4 + 3) / 4 = i by omega]
theorem flat4_congr {N : Nat → ByteArray} {K : Nat → Sh} {M M' : Nat → Mx} {j : Nat} (h : M (j / 4) = M' (j / 4)) : flat4 N K M j = flat4 N K M' j := by simp only [flat4, h]
theorem RuleAt.of_row {w : World} {b t n i : Nat} {N : Nat → ByteArray} {K : Nat → Sh} {M : Nat → Mx} (h : w.rowIs b t (n * 4) (flat4 N K M)) (hi : i < n) : RuleAt w b (0 + i * 4) (N i) (K i) (M i) := by
  have h0 := h.cell (i := i * 4) (by omega)
  have h1 := h.cell (i := i * 4 + 1) (by omega)
  have h2 := h.cell (i := i * 4 + 2) (by omega)
  have h3 := h.cell (i := i * 4 + 3) (by omega)
  rw [flat4_0] at h0
  rw [flat4_1] at h1
  rw [flat4_2] at h2
  rw [flat4_3] at h3
  exact ⟨by simpa using h0, by simpa using h1, by simpa using h2, by simpa using h3⟩

theorem infoRule : (Tryz.prog.info? 52).map (fun i => (i.zero, i.size, i.bytes)) = some (some (.agg #[.string ⟨#[]⟩, .int .i64 0, .slice none 0 0, .slice none 0 0]), 4, 72) := by kernel_rfl

theorem makeRules (n : Nat) (hn : n ≤ 1048576) (w : World) : (Instr.makeSlice 27 (.int .i64 n) (.int .i64 n)).run Tryz.prog w = .ok (.slice (some ⟨w.heap.size, 0, none⟩) n n) (w.alloc (.cells (madeCells #[.string ⟨#[]⟩, .int .i64 0, .slice none 0 0, .slice none 0 0] (n * 4)) 52)) := by
  obtain ⟨i0, hi, hz0, hz1, hz2⟩ := info_parts infoRule
  have h := run_make (P := Tryz.prog) w 27 52 i0 _ Tryz.underlying27 hi hz0 .i64 .i64 n n (by omega) (by omega) (by rw [hz2]; omega) (by omega)
  rw [hz1] at h
  simpa [Value.cells] using h

/-- the cells of a new row -/
def zero4 (j : Nat) : Value := if j % 4 = 0 then .string ⟨#[]⟩ else if j % 4 = 1 then .int .i64 0 else .slice none 0 0

theorem made_rowU (w : World) (n : Nat) (N : Nat → ByteArray) (K : Nat → Sh) (M : Nat → Mx) : (w.alloc (.cells (madeCells #[.string ⟨#[]⟩, .int .i64 0, .slice none 0 0, .slice none 0 0] (n * 4)) 52)).rowIs w.heap.size 52 (n * 4) (fun j => if j < 0 * 4 then flat4 N K M j else zero4 j) := by
  have h := World.rowIs_alloc w (madeCells #[.string ⟨#[]⟩, .int .i64 0, .slice none 0 0, .slice none 0 0] (n * 4)) 52 zero4 (fun i hi => by
    rw [size_madeCells] at hi
    simp only [madeCells, Array.getElem?_map]
    rw [Array.getElem?_range, if_pos hi]
    have : i % 4 = 0 ∨ i % 4 = 1 ∨ i % 4 = 2 ∨ i % 4 = 3 := by omega
    rcases this with h | h | h | h <;> simp [h, zero4])
  rw [size_madeCells] at h
  exact h.congr (fun i _ => by simp)

theorem row_step4 {w : World} {g n k : Nat} {N : Nat → ByteArray} {K : Nat → Sh} {M : Nat → Mx} {M' : Mx} {z : Nat → Value} (h : w.rowIs g 52 (n * 4) (fun j => if j < k * 4 then flat4 N K M j else z j)) :
    ((((w.setCell ⟨g, k * 4, none⟩ (.string (N k))).setCell ⟨g, k * 4 + 1, none⟩ (.int .i64 (K k).kind)).setCell ⟨g, k * 4 + 2, none⟩ M'.sv).setCell ⟨g, k * 4 + 3, none⟩ M'.kv).rowIs g 52 (n * 4) (fun j => if j < (k + 1) * 4 then flat4 N K (fun i => if i = k then M' else M i) j else z j) := by
  refine ((((h.set (k * 4) _).set (k * 4 + 1) _).set (k * 4 + 2) _).set (k * 4 + 3) _).congr (fun j _ => ?_)
  by_cases e3 : j = k * 4 + 3
  · subst e3
    rw [if_pos rfl, if_pos (by omega), flat4_3, if_pos rfl]
  · rw [if_neg e3]
    by_cases e4 : j = k * 4 + 2
    · subst e4
      rw [if_pos rfl, if_pos (by omega), flat4_2, if_pos rfl]
    · rw [if_neg e4]
      by_cases e1 : j = k * 4 + 1
      · subst e1
        rw [if_pos rfl, if_pos (by omega), flat4_1]
      · rw [if_neg e1]
        by_cases e2 : j = k * 4
        · subst e2
          rw [if_pos rfl, if_pos (by omega), flat4_0]
        · rw [if_neg e2]
          by_cases e4 : j < k * 4
          · rw [if_pos e4, if_pos (by omega)]
            exact flat4_congr (by rw [if_neg (by omega)])
          · rw [if_neg e4, if_neg (by omega)]

theorem keep4 (w : World) (g o1 o2 o3 o4 : Nat) (u1 u2 u3 u4 : Value) {x : Nat} (h : x ≠ g) : ((((w.setCell ⟨g, o1, none⟩ u1).setCell ⟨g, o2, none⟩ u2).setCell ⟨g, o3, none⟩ u3).setCell ⟨g, o4, none⟩ u4).heap[x]? = w.heap[x]? := by
  rw [Below.heap_setCell _ _ _ _ h, Below.heap_setCell _ _ _ _ h, Below.heap_setCell _ _ _ _ h, Below.heap_setCell _ _ _ _ h]

/-- what toRuleS tells: the rules lie in a new block, what they hold behind it -/
def ToRules (n : Nat) (N : Nat → ByteArray) (K : Nat → Sh) (w : World) (e : Ending) (w' : World) : Prop :=
  ∃ M', e = .returned (.slice (some ⟨w.heap.size, 0, none⟩) n n) ∧ w'.rowIs w.heap.size 52 (n * 4) (flat4 N K M') ∧ (∀ i, i < n → In (fun k => w.heap.size < k ∧ Soft w' k) w' (K i) (M' i)) ∧ Below w.heap.size w w'

theorem ToRules.rules {n : Nat} {N : Nat → ByteArray} {K : Nat → Sh} {M : Nat → Mx} {B : Nat → Prop} {w : World} {g : Nat} (h : w.rowIs g 52 (n * 4) (flat4 N K M)) (hi : ∀ i, i < n → In B w (K i) (M i)) : RulesIn AnyB w g 0 n N K M :=
  fun i h1 => ⟨RuleAt.of_row h h1, (hi i h1).mono (fun _ _ => trivial)⟩

set_option maxHeartbeats 1000000 in
theorem toRuleS_any (a : Option Addr) (b off n cap : Nat) (N : Nat → ByteArray) (K : Nat → Sh) (M : Nat → Mx) (w : World) (hga : 0 < n → a = some ⟨b, off, none⟩) (hR : RulesIn AnyB w b off n N K M) (hn : n ≤ 1048576) (hc : ∀ i, i < n → cnt (K i) ≤ 1048576) :
    Calls Tryz.prog 6 #[.slice a n cap] w (ToRules n N K w) := by
  have hmk := makeRules n hn
  go_enter Tryz.func6, Tryz.ntmps6
  go_wp2_with fail
  clear hmk
  go_loopw [4] (fun i wr => ∃ (k : Nat) (Mf : Nat → Mx), k ≤ n ∧ i = .int .i64 k ∧ wr.rowIs w.heap.size 52 (n * 4) (fun j => if j < k * 4 then flat4 N K Mf j else zero4 j) ∧ (∀ i, i < k → In (fun x => w.heap.size < x ∧ Soft wr x) wr (K i) (Mf i)) ∧ Below w.heap.size w wr)
    (fun i _ => n - (intOf i).toNat)
  case atStart => exact ⟨0, fun _ => .no, Nat.zero_le _, rfl, made_rowU w n N K _, fun i hi => absurd hi (Nat.not_lt_zero _), (Below.refl _ _).alloc (Nat.le_refl _) _⟩
  case round =>
    obtain ⟨k, Mf, hk', rfl, hrow, hins, hB⟩ := hrel
    by_cases hlt : k < n
    · obtain rfl := hga (by omega)
      have hltz : (k : Int) < (n : Int) := by omega
      obtain ⟨hat, hin⟩ := hR k hlt
      obtain ⟨d0, d1, d2, d3⟩ := (hat.below hB).cells
      have HC : Hid (Calls Tryz.prog 17 #[rv (N k) (K k) (M k)] wr (ToRule (N k) (K k) wr)) := toRule_any (N k) (K k) (M k) wr (hin.below hB) (hc k hlt)
      have HI : Hid (∀ i, i < k → In (fun x => w.heap.size < x ∧ Soft wr x) wr (K i) (Mf i)) := hins
      clear hins
      go_wp2_with fail
      refine HC.out.mono ?_
      rintro e w1 ⟨M1, rfl, hin1, hb1⟩
      have hrow1 := row_below hrow hb1
      obtain ⟨sa, sn, sc, ka, km, kc, es, ek⟩ := hin1.slices
      have HR : Hid _ := row_step4 (M' := M1) hrow1
      rw [es, ek] at HR
      have HES : Hid (rv (N k) (K k) M1 = .agg #[.string (N k), .int .i64 (K k).kind, .slice sa sn sc, .slice ka km kc]) := by rw [Hid, rv, es, ek]
      have HIN : Hid _ := hin1
      rw [HES.out]
      clear es ek hin1
      have e0 := hrow1.cell (i := k * 4) (by omega)
      have e1 := hrow1.cell (i := k * 4 + 1) (by omega)
      have e2 := hrow1.cell (i := k * 4 + 2) (by omega)
      have e3 := hrow1.cell (i := k * 4 + 3) (by omega)
      have f0 := hrow1.frozen (k * 4)
      have f1 := hrow1.frozen (k * 4 + 1)
      have f2 := hrow1.frozen (k * 4 + 2)
      have f3 := hrow1.frozen (k * 4 + 3)
      go_wp2_with fail
      go_roundw
      case rel =>
        refine ⟨k + 1, _, by omega, by go_num, HR.out, fun i hi => ?_, ((((hB.trans (hb1.mono hB.size)).setCell (by simp) _).setCell (by simp) _).setCell (by simp) _).setCell (by simp) _⟩
        have hgs : w.heap.size < wr.heap.size := hrow.lt
        refine In.mono (B := fun x => w.heap.size < x ∧ Soft w1 x) (fun x hx => ⟨hx.1, (hx.2.set3).set _ _⟩) (In.keep (w := w1) (fun x hx _ => keep4 _ _ _ _ _ _ _ _ _ _ (by omega)) ?_)
        by_cases hik : i = k
        · subst hik
          rw [if_pos rfl]
          exact HIN.out.mono (fun x hx => ⟨by omega, hx.2⟩)
        · rw [if_neg hik]
          exact ((HI.out i (by omega)).below hb1).mono (fun x hx => ⟨hx.1, hx.2.below hb1⟩)
      case measure => simp [intOf]; omega
    · go_wp2_with fail
      go_ret
      obtain rfl : k = n := by omega
      exact ⟨Mf, rfl, hrow.congr (fun j hj => by rw [if_pos hj]), hins, hB⟩
end Go.Proofs.YtplpdikkkbiacaaGreatDoor

