/- LexRun: the model's side -/
import Derived.Test.YtolddecfibdblaaDoorXh
import Derived.Test.YtolddecfibdblaaDoorXl
import Derived.Maps.AppendAt
import Derived.RangeFuncBox
namespace Go.Proofs.YtolddecfibdblaaDoor
open Go.RowKit
set_option linter.unusedVariables false
set_option linter.unusedSimpArgs false

/-- what LexRun tells -/
def LexRunR (D : Dx) (t : ByteArray) (L : List Tk) (b : Nat) : Prop := (DOk D ∧ t.size ≤ 200 ∧ CutEnd (LexV D t) t.size L b) ∨ ((¬ DOk D ∨ 200 < t.size) ∧ L = [] ∧ b = 0)
theorem LexRunR.unique {D : Dx} {t : ByteArray} {L L' : List Tk} {b b' : Nat} (h : LexRunR D t L b) (h' : LexRunR D t L' b') : L = L' ∧ b = b' := by
  rcases h with ⟨a1, a2, a3⟩ | ⟨a1, a2, a3⟩ <;> rcases h' with ⟨b1, b2, b3⟩ | ⟨b1, b2, b3⟩
  · exact a3.unique (fun a _ r x r' x' h1 h2 => h1.unique a1 h2) b3
  · rcases b1 with b1 | b1
    · exact absurd a1 b1
    · omega
  · rcases a1 with a1 | a1
    · exact absurd b1 a1
    · omega
  · exact ⟨a2.trans b2.symm, a3.trans b3.symm⟩
theorem LexRunR.congr {D D' : Dx} (e : DEq D D') {t : ByteArray} {L : List Tk} {b : Nat} (h : LexRunR D t L b) : LexRunR D' t L b := by
  rcases h with ⟨a1, a2, a3⟩ | ⟨a1, a2, a3⟩
  · exact .inl ⟨a1.congr e, a2, a3.mono (fun a _ r x h => h.congr e a1)⟩
  · exact .inr ⟨a1.imp (fun h h2 => h (h2.congr e.symm)) id, a2, a3⟩
theorem lexV_finds {D : Dx} (h : DOk D) (t : ByteArray) : Finds (LexV D t) t.size := fun a ha r x hv => hv.bd h ha
/-- tokens in a new list of one's own, and a number -/
def TokRes (P : List Tk → Nat → Prop) (w : World) (e : Ending) (w' : World) : Prop :=
  ∃ (v : Value) (L : List Tk) (b : Nat), e = .returned (.tuple #[v, .int .i64 b]) ∧ P L b ∧ w'.ownsRow w.heap.size 59 3 v L.length (cellsT L) ∧ Below w.heap.size w w'
theorem TokRes.nil {P : List Tk → Nat → Prop} {w w' : World} (h : P [] 0) (hb : Below w.heap.size w w') : TokRes P w (.returned (.tuple #[.slice none 0 0, .int .i64 0])) w' :=
  ⟨.slice none 0 0, [], 0, rfl, h, World.ownsRow_nil _ _ _ _, hb⟩

theorem Tryd.infoTokA : (Tryd.prog.info? 59).map (fun i => (i.zero, i.size, i.bytes)) = some (some (.agg #[.int .i64 0, .int .i64 0, .int .i64 0]), 3, 24) := by kernel_rfl
theorem cell_three_new (w : World) (x y z : Value) (t : TypeId) : ∀ j v, [x, y, z][j]? = some v → (w.alloc (.cells #[x, y, z] t)).cell? ((⟨w.heap.size, 0, none⟩ : Addr).add j) = some v := by
  intro j v hj
  match j with
  | 0 => simp at hj; subst hj; simp [go_sem]
  | 1 => simp at hj; subst hj; simp [go_sem]
  | 2 => simp at hj; subst hj; simp [go_sem]
  | j + 3 => simp at hj

set_option maxRecDepth 100000 in
set_option maxHeartbeats 4000000 in
theorem specLexRun_any (D : Dx) (t : ByteArray) (w : World) (h : DIn w D) (hm : DLe D 4194304) (ht : t.size ≤ 4611686018427387904) :
    Calls Tryd.prog 16 #[dv D, .string t] w (TokRes (LexRunR D t) w) := by
  obtain ⟨W0, hW0⟩ : ∃ W0, W0 = (w.alloc (.cells #[.slice D.pa D.pn D.pc, .slice D.ra D.rn D.rc, .slice D.aa D.an D.ac] 31)).alloc (.cells #[] 59) := ⟨_, rfl⟩
  have hb0 : Below w.heap.size w W0 := by rw [hW0]; exact ((Below.refl _ _).alloc (Nat.le_refl _) _).alloc (by simp) _
  have HX : Hid (∀ V, Below (w.heap.size + 1) W0 V → V.cell? ⟨w.heap.size, 0, none⟩ = some (.slice D.pa D.pn D.pc) ∧ V.cell? ⟨w.heap.size, 1, none⟩ = some (.slice D.ra D.rn D.rc) ∧ V.cell? ⟨w.heap.size, 2, none⟩ = some (.slice D.aa D.an D.ac)) := fun V hV => by
    refine ⟨(hV.cell (p := ⟨w.heap.size, 0, none⟩) (Nat.lt_succ_self _)).trans ?_, (hV.cell (p := ⟨w.heap.size, 1, none⟩) (Nat.lt_succ_self _)).trans ?_, (hV.cell (p := ⟨w.heap.size, 2, none⟩) (Nat.lt_succ_self _)).trans ?_⟩ <;> (rw [hW0]; simp [go_sem])
  have H1 : Hid (Calls Tryd.prog 25 #[.agg #[.slice D.pa D.pn D.pc, .slice D.ra D.rn D.rc, .slice D.aa D.an D.ac]] W0 (IsB (DOk D) W0)) := specDfaOk_any D W0 (h.below hb0) hm
  have H2 : Hid (∀ (V : World) (c : Nat), Below w.heap.size w V → DOk D → c ≤ t.size → t.size ≤ 200 → Calls Tryd.prog 35 #[.agg #[.slice D.pa D.pn D.pc, .slice D.ra D.rn D.rc, .slice D.aa D.an D.ac], .string t, .int .i64 c] V (IsTwo (LexV D t c) V)) := fun V c hV hd hc h2 => specAt_any D t c V (h.below hV) hm hd hc (by omega)
  have HB0 : Hid (Below w.heap.size w W0) := hb0
  have HO0 : Hid (W0.ownsRow (w.heap.size + 1) 59 3 (.slice (some ⟨w.heap.size + 1, 0, none⟩) ([] : List Tk).length 0) ([] : List Tk).length (cellsT [])) := by
    rw [hW0]
    have := World.ownsRow_lit (base := w.heap.size + 1) (size := 3) (e := 59) (w.alloc (.cells #[.slice D.pa D.pn D.pc, .slice D.ra D.rn D.rc, .slice D.aa D.an D.ac] 31)) #[] 0 (by simp) (by unfold maxLen; omega) rfl
    rw [World.size_alloc] at this
    exact this
  obtain ⟨i0, hi, hz0, hz1, hz2⟩ := info_parts Tryd.infoTokA
  rw [dv]
  clear h hm
  go_enter Tryd.func16, Tryd.ntmps16
  go_wp2_with fail
  rw [← hW0]
  have hs0 : w.heap.size + 1 < W0.heap.size := by rw [hW0]; simp
  clear hW0 hb0
  refine H1.out.mono ?_
  rintro e w1 ⟨ok, rfl, hok, hb1⟩
  have HOK : Hid (ok = true ↔ DOk D) := hok
  obtain ⟨p0, p1, p2⟩ := HX.out _ (hb1.mono (by omega))
  have HB1 : Hid (Below w.heap.size w w1) := HB0.out.trans (hb1.mono HB0.out.size)
  have HW1 : Hid (Below W0.heap.size W0 w1) := hb1
  have HO1 : Hid (w1.ownsRow (w.heap.size + 1) 59 3 (.slice (some ⟨w.heap.size + 1, 0, none⟩) ([] : List Tk).length 0) ([] : List Tk).length (cellsT [])) := own_belowT HO0.out hb1
  clear hok hb1
  cases ok
  · go_wp2_with fail
    refine bodyPost_ret (v := .tuple #[.slice (some ⟨w.heap.size + 1, 0, none⟩) 0 0, .int .i64 0]) (by simp [results, Tryd.results16, go_sem]) rfl ?_
    exact ⟨_, [], 0, rfl, .inr ⟨.inl (fun h => by have := HOK.out.2 h; cases this), rfl, rfl⟩, own_downT HO1.out (by omega), HB1.out⟩
  have HD : Hid (DOk D) := HOK.out.1 rfl
  by_cases c1 : 200 < t.size
  · have c1z : (200 : Int) < (t.size : Int) := by omega
    go_wp2_with fail
    refine bodyPost_ret (v := .tuple #[.slice (some ⟨w.heap.size + 1, 0, none⟩) 0 0, .int .i64 0]) (by simp [results, Tryd.results16, go_sem]) rfl ?_
    exact ⟨_, [], 0, rfl, .inr ⟨.inr c1, rfl, rfl⟩, own_downT HO1.out (by omega), HB1.out⟩
  have c1z : ¬ (200 : Int) < (t.size : Int) := by omega
  have hl200 : t.size ≤ 200 := by omega
  clear c1
  go_wp2_with fail
  go_loopw [6, 7] (fun o i wr => ∃ (L : List Tk) (c : Nat) (g k : Nat), c ≤ t.size ∧ i = .int .i64 c ∧ o = .slice (some ⟨g, 0, none⟩) L.length k ∧ L.length ≤ c ∧ Hid (CutFrom (LexV D t) t.size 0 L c) ∧ Hid (wr.ownsRow (w.heap.size + 1) 59 3 (.slice (some ⟨g, 0, none⟩) L.length k) L.length (cellsT L)) ∧ Hid (Below (w.heap.size + 1) W0 wr)) (fun _ i _ => t.size - (intOf i).toNat)
  case atStart => exact ⟨[], 0, w.heap.size + 1, 0, Nat.zero_le _, rfl, rfl, Nat.le_refl _, rfl, HO1.out, HW1.out.mono (by omega)⟩
  case round =>
    obtain ⟨L, c, g, k, hc, rfl, rfl, hLc, HC, HO, HB⟩ := hrel
    have HWR : Hid (Below w.heap.size w wr) := HB0.out.trans (HB.out.mono (by omega))
    have hs2 : W0.heap.size ≤ wr.heap.size := HB.out.size
    obtain ⟨p0, p1, p2⟩ := HX.out _ HB.out
    by_cases hlt : c < t.size
    · have hltz : (c : Int) < (t.size : Int) := by omega
      have H2' := H2.out wr c HWR.out HD.out hc hl200
      go_wp2_with fail
      refine H2'.mono ?_
      clear H2'
      rintro e w2 ⟨r, x, rfl, hv, hb2⟩
      obtain ⟨⟨v1, v2⟩, ⟨v3, v4⟩, v5, v6⟩ := hv.bd HD.out hc
      have HV : Hid (LexV D t c r x) := hv
      have HO2 : Hid (w2.ownsRow (w.heap.size + 1) 59 3 (.slice (some ⟨g, 0, none⟩) L.length k) L.length (cellsT L)) := own_belowT HO.out hb2
      have HB2 : Hid (Below (w.heap.size + 1) W0 w2) := HB.out.trans (hb2.mono (by omega))
      have HW2 : Hid (Below w.heap.size w w2) := HB0.out.trans (HB2.out.mono (by omega))
      have hs3 : W0.heap.size ≤ w2.heap.size := HB2.out.size
      clear hv hb2 HO HB HWR p0 p1 p2
      by_cases hr : r < 0
      · have e1 : r = -1 := by omega
        have HE : Hid (LexRunR D t L c) := .inl ⟨HD.out, hl200, HC.out, .inr ⟨hlt, x, e1 ▸ HV.out⟩⟩
        clear e1
        go_wp2_with fail
        refine bodyPost_ret (v := .tuple #[.slice (some ⟨g, 0, none⟩) L.length k, .int .i64 c]) (by simp [results, Tryd.results16, go_sem]) rfl ?_
        exact ⟨_, L, c, rfl, HE.out, own_downT HO2.out (by omega), HW2.out⟩
      · have hr0 : 0 ≤ r := by omega
        have hcx := v6 hr0
        obtain ⟨y, rfl⟩ : ∃ y : Nat, x = (y : Int) := ⟨x.toNat, by omega⟩
        have HCN : Hid (CutFrom (LexV D t) t.size 0 (L ++ [⟨r, (c : Int), (y : Int)⟩]) y) := HC.out.snoc hlt HV.out (by omega)
        clear v1 v2 v3 v5 v6
        go_wp2_with (at_builtin; refine wpList_append_own _ rfl _ _ 38 rfl (w.heap.size + 1) 59 i0 _ 3 24 Tryd.underlying38 hi hz0 hz1 hz2 (by simp [Value.cells]) (by decide) _ _ _ rfl (HO2.out.alloc _) ⟨w2.heap.size, 0, none⟩ 1 1 [.int .i64 r, .int .i64 c, .int .i64 y] rfl rfl (cell_three_new _ _ _ _ _) (by simp [Value.oneCell']) (by unfold maxLen; omega) (by omega) (by rw [World.size_alloc]; omega) ?_; intro v' W4 hown4 hgr _; obtain ⟨g4, c4, rfl⟩ := ownsRow_succ hown4; have HO4 : Hid (W4.ownsRow (w.heap.size + 1) 59 3 (.slice (some ⟨g4, 0, none⟩) (L ++ [(⟨r, (c : Int), (y : Int)⟩ : Tk)]).length c4) (L ++ [(⟨r, (c : Int), (y : Int)⟩ : Tk)]).length (cellsT (L ++ [⟨r, (c : Int), (y : Int)⟩]))) := (by rw [cellsT_snoc, List.length_append]; exact hown4); have HB4 : Hid (Below (w.heap.size + 1) W0 W4) := (HB2.out.alloc (by omega) _).grown hgr (by rw [World.size_alloc]; omega) (fun j hj => (HO2.out.lt j hj).1); clear hown4 hgr)
        exact ⟨⟨L ++ [(⟨r, (c : Int), (y : Int)⟩ : Tk)], y, g4, c4, by omega, rfl, by rw [List.length_append]; rfl, by rw [List.length_append, List.length_singleton]; omega, HCN.out, HO4.out, HB4.out⟩, by simp [intOf]; omega⟩
    · have hltz : ¬ (c : Int) < (t.size : Int) := by omega
      have HE : Hid (LexRunR D t L c) := .inl ⟨HD.out, hl200, HC.out, .inl (by omega)⟩
      go_wp2_with fail
      refine bodyPost_ret (v := .tuple #[.slice (some ⟨g, 0, none⟩) L.length k, .int .i64 c]) (by simp [results, Tryd.results16, go_sem]) rfl ?_
      exact ⟨_, L, c, rfl, HE.out, own_downT HO.out (by omega), HWR.out⟩
end Go.Proofs.YtolddecfibdblaaDoor

