/- firstRule over two Rex, and the rules of NormCat but the one that goes on. -/
import Derived.Test.YtiphmmgfmiiilaaDoorQa
import Derived.BigRegion
namespace Go.Proofs.YtiphmmgfmiiilaaDoor
open Go.RowKit Go.Shelf
set_option linter.unusedVariables false
set_option linter.unusedSimpArgs false

/-- two Rex as one value -/
def vx2 (A : Sh) (M : Mx) (C : Sh) (N : Mx) : Value := .agg #[.int .i64 A.kind, M.sv, M.kv, .int .i64 C.kind, N.sv, N.kv]
theorem vx2_eq {A C : Sh} {M N : Mx} {x0 x1 x2 y0 y1 y2 : Value} (h : vx A M = .agg #[x0, x1, x2]) (h' : vx C N = .agg #[y0, y1, y2]) : vx2 A M C N = .agg #[x0, x1, x2, y0, y1, y2] := by
  simp only [vx, Value.agg.injEq, Array.mk.injEq, List.cons.injEq] at h h'
  obtain ⟨h0, h1, h2, _⟩ := h
  obtain ⟨k0, k1, k2, _⟩ := h'
  rw [vx2, h0, h1, h2, k0, k1, k2]

set_option maxRecDepth 100000 in
set_option maxHeartbeats 2000000 in
theorem firstRule2_any {B0 : Nat → Prop} (A C : Sh) (M N : Mx) (w : World) (h : In B0 w A M) (hC : In B0 w C N) (hB0 : ∀ k, B0 k → k < w.heap.size) (n rb : Nat) (f : Nat → FuncId) (R : Nat → Sh) (B : Nat → Bool) (k0 : Nat) (hk0 : k0 < n) (hn : n ≤ 10)
    (hcell : ∀ i, i < n → w.cell? ⟨rb, i, none⟩ = some (.func (.func (f i)) #[] #[]))
    (hent : ∀ i, i < n → ∀ args w, (callFunc (f i) args).run Tryd.prog w = .ok (.enter (f i) args) w)
    (hcall : ∀ i, i < n → ∀ w1, Below w.heap.size w w1 → Calls Tryd.prog (f i) #[vx2 A M C N] w1 (RuleRes B0 (R i) (B i) w1))
    (hB : B k0 = true) (hlt : ∀ i, i < k0 → B i = false) :
    Calls Tryd.prog 33 #[vx2 A M C N, .slice (some ⟨rb, 0, none⟩) n n] w (ShResB B0 (R k0) w) := by
  obtain ⟨a, c, a', c', hv⟩ := h.value'
  obtain ⟨b, d, b', d', hv2⟩ := hC.value'
  have hvv := vx2_eq hv hv2
  rw [hvv] at hcall ⊢
  clear hvv
  have HCELL : Hid (∀ i, i < n → w.cell? ⟨rb, i, none⟩ = some (.func (.func (f i)) #[] #[])) := hcell
  have HENT : Hid (∀ i, i < n → ∀ args w, (callFunc (f i) args).run Tryd.prog w = .ok (.enter (f i) args) w) := hent
  have HCALL : Hid (∀ i, i < n → ∀ w1, Below w.heap.size w w1 → Calls Tryd.prog (f i) #[.agg #[.int .i64 A.kind, .slice a A.n c, .slice a' A.m c', .int .i64 C.kind, .slice b C.n d, .slice b' C.m d']] w1 (RuleRes B0 (R i) (B i) w1)) := hcall
  have HBB : Hid (B k0 = true ∧ ∀ i, i < k0 → B i = false) := ⟨hB, hlt⟩
  have hb0 : Below w.heap.size w ((w.alloc (.cells #[.int .i64 A.kind, .slice a A.n c, .slice a' A.m c', .int .i64 C.kind, .slice b C.n d, .slice b' C.m d'] 57)).alloc (.cells #[.int .i64 0, .slice none 0 0, .slice none 0 0] 30)) := below_two _ _ _
  have HRB0 : Hid (Rb ((w.alloc (.cells #[.int .i64 A.kind, .slice a A.n c, .slice a' A.m c', .int .i64 C.kind, .slice b C.n d, .slice b' C.m d'] 57)).alloc (.cells #[.int .i64 0, .slice none 0 0, .slice none 0 0] 30)) (w.heap.size + 1)) := by
    have := Rb.new (w.alloc (.cells #[.int .i64 A.kind, .slice a A.n c, .slice a' A.m c', .int .i64 C.kind, .slice b C.n d, .slice b' C.m d'] 57)) (.int .i64 0) (.slice none 0 0) (.slice none 0 0)
    rwa [size_new] at this
  clear hv hv2 h hC hcell hent hcall hB hlt
  go_enter Tryd.func33, Tryd.ntmps33
  go_wp2_with fail
  go_loopw [11] (fun ix wr => ∃ k : Nat, k ≤ k0 ∧ ix = .int .i64 k ∧ wr.cell? ⟨w.heap.size, 0, none⟩ = some (.int .i64 A.kind) ∧ wr.cell? ⟨w.heap.size, 1, none⟩ = some (.slice a A.n c) ∧ wr.cell? ⟨w.heap.size, 2, none⟩ = some (.slice a' A.m c') ∧ wr.cell? ⟨w.heap.size, 3, none⟩ = some (.int .i64 C.kind) ∧ wr.cell? ⟨w.heap.size, 4, none⟩ = some (.slice b C.n d) ∧ wr.cell? ⟨w.heap.size, 5, none⟩ = some (.slice b' C.m d') ∧ Hid (Rb wr (w.heap.size + 1)) ∧ Hid (Below w.heap.size w wr)) (fun ix _ => n - (intOf ix).toNat)
  case atStart => exact ⟨0, Nat.zero_le _, rfl, by simp [go_sem], by simp [go_sem], by simp [go_sem], by simp [go_sem], by simp [go_sem], by simp [go_sem], HRB0, hb0⟩
  case round =>
    obtain ⟨k, hk, rfl, c0, c1, c2, c3, c4, c5, HRB, HBW⟩ := hrel
    have hkn : k < n := by omega
    have hltz : (k : Int) < (n : Int) := by omega
    have hrc := HCELL.out k hkn
    have rc : wr.cell? ⟨rb, k, none⟩ = some (.func (.func (f k)) #[] #[]) := (HBW.out.cell (p := ⟨rb, k, none⟩) (World.block_lt_of_cell? _ _ hrc)).trans hrc
    have hen := HENT.out k hkn
    have HC : Hid (Calls Tryd.prog (f k) #[.agg #[.int .i64 A.kind, .slice a A.n c, .slice a' A.m c', .int .i64 C.kind, .slice b C.n d, .slice b' C.m d']] wr (RuleRes B0 (R k) (B k) wr)) := HCALL.out k hkn wr HBW.out
    obtain ⟨bk, hbk⟩ : ∃ bk, B k = bk := ⟨_, rfl⟩
    have HBK : Hid (B k = bk) := hbk
    rw [hbk] at HC
    clear hrc hbk
    go_wp2_with fail
    refine HC.out.mono ?_
    rintro e w1 ⟨M1, rfl, hin1, hb1⟩
    obtain ⟨x1, x2, x3, x4, hv1⟩ := hin1.value'
    have HV1 : Hid (vx (R k) M1 = .agg #[.int .i64 (R k).kind, .slice x1 (R k).n x2, .slice x3 (R k).m x4]) := hv1
    rw [hv1]
    have HIN1 : Hid (In (fun k => B0 k ∨ wr.heap.size ≤ k) w1 (R k) M1) := hin1
    have hsr : w.heap.size + 1 < wr.heap.size := HRB.out.lt
    obtain ⟨hc1, hf1⟩ := bcell hb1
    have hlt0 := World.block_lt_of_cell? _ _ c0
    have d0 := (hc1 w.heap.size 0 hlt0).trans c0
    have d1 := (hc1 w.heap.size 1 hlt0).trans c1
    have d2 := (hc1 w.heap.size 2 hlt0).trans c2
    have d3 := (hc1 w.heap.size 3 hlt0).trans c3
    have d4 := (hc1 w.heap.size 4 hlt0).trans c4
    have d5 := (hc1 w.heap.size 5 hlt0).trans c5
    have HRB1 : Hid (Rb w1 (w.heap.size + 1)) := HRB.out.of_block (hb1.block _ HRB.out.lt)
    have HBW1 : Hid (Below w.heap.size w w1) := HBW.out.trans (hb1.mono HBW.out.size)
    have hs1 : w.heap.size + 1 < w1.heap.size := HRB1.out.lt
    clear hc1 hf1 hlt0 hb1 hin1 hv1 c0 c1 c2 c3 c4 c5 rc
    cases bk with
    | false =>
      have hne : k ≠ k0 := fun e => by have := HBB.out.1; rw [← e, HBK.out] at this; cases this
      have hlt : k < k0 := by omega
      go_wp2_with fail
      go_roundw
      case rel =>
        refine ⟨k + 1, by omega, by go_num, ?_, ?_, ?_, ?_, ?_, ?_, HRB1.out.of_block ((below_new w1 _).block _ HRB1.out.lt), HBW1.out.trans ((below_new w1 _).mono HBW1.out.size)⟩
        · exact ((below_new w1 _).cell (p := ⟨w.heap.size, 0, none⟩) (World.block_lt_of_cell? _ _ d0)).trans d0
        · exact ((below_new w1 _).cell (p := ⟨w.heap.size, 1, none⟩) (World.block_lt_of_cell? _ _ d1)).trans d1
        · exact ((below_new w1 _).cell (p := ⟨w.heap.size, 2, none⟩) (World.block_lt_of_cell? _ _ d2)).trans d2
        · exact ((below_new w1 _).cell (p := ⟨w.heap.size, 3, none⟩) (World.block_lt_of_cell? _ _ d3)).trans d3
        · exact ((below_new w1 _).cell (p := ⟨w.heap.size, 4, none⟩) (World.block_lt_of_cell? _ _ d4)).trans d4
        · exact ((below_new w1 _).cell (p := ⟨w.heap.size, 5, none⟩) (World.block_lt_of_cell? _ _ d5)).trans d5
      case measure => simp [intOf]; omega
    | true =>
      have HK0 : Hid (k = k0) := by
        rcases Nat.lt_or_eq_of_le hk with h | h
        · have := HBB.out.2 k h; rw [HBK.out] at this; cases this
        · exact h
      obtain ⟨⟨b0', e0⟩, ⟨b1', e1⟩, ⟨b2', e2⟩, ef⟩ := HRB1.out.cells
      obtain ⟨X, hX⟩ : ∃ X : Obj, X = .cells #[.int .i64 (R k).kind, .slice x1 (R k).n x2, .slice x3 (R k).m x4] 30 := ⟨_, rfl⟩
      go_wp2_with fail
      refine bodyPost_ret (v := .agg #[.int .i64 (R k).kind, .slice x1 (R k).n x2, .slice x3 (R k).m x4]) (by simp [results, Tryd.results33, go_sem, e0, e1, e2, hs1]) rfl ?_
      rw [← HK0.out]
      have hin3 : In (fun k => B0 k ∨ wr.heap.size ≤ k) (((w1.setCell ⟨w.heap.size + 1, 0, none⟩ (.int .i64 (R k).kind)).setCell ⟨w.heap.size + 1, 1, none⟩ (.slice x1 (R k).n x2)).setCell ⟨w.heap.size + 1, 2, none⟩ (.slice x3 (R k).m x4)) (R k) M1 := in3 (fun x hx => by
        rcases hx with hx | hx
        · have := hB0 x hx; omega
        · omega) _ _ _ HIN1.out
      exact ⟨M1, by rw [HV1.out], (hin3.below (below_new _ _)).mono (fun x hx => hx.imp (fun h => h) (fun h => by omega)), (((HBW1.out.setCell (by simp) _).setCell (by simp) _).setCell (by simp) _).alloc (by simp; omega) _⟩

theorem enters34 : ∀ args w, (callFunc 34 args).run Tryd.prog w = .ok (.enter 34 args) w := enters_of Tryd.func34 (by kernel_rfl) rfl
theorem enters35 : ∀ args w, (callFunc 35 args).run Tryd.prog w = .ok (.enter 35 args) w := enters_of Tryd.func35 (by kernel_rfl) rfl
theorem enters36 : ∀ args w, (callFunc 36 args).run Tryd.prog w = .ok (.enter 36 args) w := enters_of Tryd.func36 (by kernel_rfl) rfl
theorem enters37 : ∀ args w, (callFunc 37 args).run Tryd.prog w = .ok (.enter 37 args) w := enters_of Tryd.func37 (by kernel_rfl) rfl
theorem enters38 : ∀ args w, (callFunc 38 args).run Tryd.prog w = .ok (.enter 38 args) w := enters_of Tryd.func38 (by kernel_rfl) rfl

set_option maxHeartbeats 4000000 in
theorem catOfNothing_any {B : Nat → Prop} (A C : Sh) (M N : Mx) (w : World) (hA : In B w A M) (hC : In B w C N) : Calls Tryd.prog 34 #[vx2 A M C N] w (RuleRes B (zeroS 1) (noB A || noB C) w) := by
  obtain ⟨a, _, _, c, a', ab, ao, c', e1, _, _, _, e2, hma, hml, hkk⟩ := hA.parts
  obtain ⟨b, _, _, d, b', _, _, d', f1, _, _, _, f2, _⟩ := hC.parts
  have hvA : vx A M = .agg #[.int .i64 A.kind, .slice a A.n c, .slice a' A.m c'] := by rw [vx, e1, e2]
  have hvC : vx C N = .agg #[.int .i64 C.kind, .slice b C.n d, .slice b' C.m d'] := by rw [vx, f1, f2]
  have HVA : Hid (vx A M = .agg #[.int .i64 A.kind, .slice a A.n c, .slice a' A.m c']) := hvA
  have HVC : Hid (vx C N = .agg #[.int .i64 C.kind, .slice b C.n d, .slice b' C.m d']) := hvC
  have HSL : Hid ((M.sv = .slice a A.n c ∧ M.kv = .slice a' A.m c') ∧ N.sv = .slice b C.n d ∧ N.kv = .slice b' C.m d') := ⟨⟨e1, e2⟩, f1, f2⟩
  have HIA : Hid (In B w A M) := hA
  have HIC : Hid (In B w C N) := hC
  have HNA : Hid (∀ w1, Below w.heap.size w w1 → Calls Tryd.prog 46 #[.agg #[.int .i64 A.kind, .slice a A.n c, .slice a' A.m c']] w1 fun e w' => e = .returned (.bool (noB A)) ∧ Below w1.heap.size w1 w') := fun w1 hb => by
    have h := isNothing_any A M w1 ((hA.mono (fun _ _ => trivial)).below hb)
    rwa [hvA] at h
  have HNC : Hid (∀ w1, Below w.heap.size w w1 → Calls Tryd.prog 46 #[.agg #[.int .i64 C.kind, .slice b C.n d, .slice b' C.m d']] w1 fun e w' => e = .returned (.bool (noB C)) ∧ Below w1.heap.size w1 w') := fun w1 hb => by
    have h := isNothing_any C N w1 ((hC.mono (fun _ _ => trivial)).below hb)
    rwa [hvC] at h
  obtain ⟨nA, hnA⟩ : ∃ x, noB A = x := ⟨_, rfl⟩
  obtain ⟨nC, hnC⟩ : ∃ x, noB C = x := ⟨_, rfl⟩
  rw [hnA] at HNA
  rw [hnC] at HNC
  rw [vx2_eq hvA hvC, hnA, hnC]
  have HFIN : Hid (∀ ok w', (nA || nC) = ok → Below w.heap.size w w' → RuleRes B (zeroS 1) (nA || nC) w (.returned (.tuple #[.agg #[.int .i64 1, .slice none 0 0, .slice none 0 0], .bool ok])) w') := fun ok w' he hb => by rw [he]; exact ⟨Mx.no, rfl, zero_in _ _ _, hb⟩
  have hb0 : Below w.heap.size w ((w.alloc (.cells #[.int .i64 A.kind, .slice a A.n c, .slice a' A.m c', .int .i64 C.kind, .slice b C.n d, .slice b' C.m d'] 57)).alloc (.cells #[.int .i64 0, .slice none 0 0, .slice none 0 0] 30)) := below_two _ _ _
  clear hvA hvC hA hC e1 e2 f1 f2 hkk hma HVA HVC HIA HIC HSL hnA hnC
  cases nA with
  | true =>
    go_enter Tryd.func34, Tryd.ntmps34
    go_wp2_with fail
    refine (HNA.out _ hb0).mono ?_
    rintro e w1 ⟨rfl, hb1⟩
    have HRB1 : Hid (Rb w1 (w.heap.size + 1)) := by
      have := (Rb.new (w.alloc (.cells #[.int .i64 A.kind, .slice a A.n c, .slice a' A.m c', .int .i64 C.kind, .slice b C.n d, .slice b' C.m d'] 57)) (.int .i64 0) (.slice none 0 0) (.slice none 0 0)).of_block (hb1.block _ (by simp))
      rwa [size_new] at this
    have HB1 : Hid (Below w.heap.size w w1) := hb0.trans (hb1.mono hb0.size)
    obtain ⟨⟨b0', d0⟩, ⟨b1', d1⟩, ⟨b2', d2⟩, df⟩ := HRB1.out.cells
    clear hb1
    go_wp2_with fail
    refine bodyPost_ret (v := .tuple #[.agg #[.int .i64 1, .slice none 0 0, .slice none 0 0], .bool true]) (by simp [results, Tryd.results34, go_sem, d0, d1, d2]) rfl ?_
    exact HFIN.out _ _ rfl (((HB1.out.setCell (by simp) _).setCell (by simp) _).setCell (by simp) _)
  | false =>
    go_enter Tryd.func34, Tryd.ntmps34
    go_wp2_with fail
    refine (HNA.out _ hb0).mono ?_
    rintro e w1 ⟨rfl, hb1⟩
    have HRB1 : Hid (Rb w1 (w.heap.size + 1)) := by
      have := (Rb.new (w.alloc (.cells #[.int .i64 A.kind, .slice a A.n c, .slice a' A.m c', .int .i64 C.kind, .slice b C.n d, .slice b' C.m d'] 57)) (.int .i64 0) (.slice none 0 0) (.slice none 0 0)).of_block (hb1.block _ (by simp))
      rwa [size_new] at this
    have HB1 : Hid (Below w.heap.size w w1) := hb0.trans (hb1.mono hb0.size)
    have y3 : w1.cell? ⟨w.heap.size, 3, none⟩ = some (.int .i64 C.kind) := (hb1.cell (p := ⟨w.heap.size, 3, none⟩) (by simp; omega)).trans (by simp [go_sem])
    have y4 : w1.cell? ⟨w.heap.size, 4, none⟩ = some (.slice b C.n d) := (hb1.cell (p := ⟨w.heap.size, 4, none⟩) (by simp; omega)).trans (by simp [go_sem])
    have y5 : w1.cell? ⟨w.heap.size, 5, none⟩ = some (.slice b' C.m d') := (hb1.cell (p := ⟨w.heap.size, 5, none⟩) (by simp; omega)).trans (by simp [go_sem])
    clear hb1
    go_wp2_with fail
    refine (HNC.out _ HB1.out).mono ?_
    rintro e w2 ⟨rfl, hb2⟩
    have HRB2 : Hid (Rb w2 (w.heap.size + 1)) := HRB1.out.of_block (hb2.block _ HRB1.out.lt)
    have HB2 : Hid (Below w.heap.size w w2) := HB1.out.trans (hb2.mono HB1.out.size)
    obtain ⟨⟨b0', d0⟩, ⟨b1', d1⟩, ⟨b2', d2⟩, df⟩ := HRB2.out.cells
    clear hb2
    go_wp2_with fail
    refine bodyPost_ret (v := .tuple #[.agg #[.int .i64 1, .slice none 0 0, .slice none 0 0], .bool nC]) (by simp [results, Tryd.results34, go_sem, d0, d1, d2]) rfl ?_
    exact HFIN.out _ _ rfl (((HB2.out.setCell (by simp) _).setCell (by simp) _).setCell (by simp) _)

set_option maxHeartbeats 4000000 in
theorem catBehindEmpty_any {B : Nat → Prop} (A C : Sh) (M N : Mx) (w : World) (hA : In B w A M) (hC : In B w C N) : Calls Tryd.prog 35 #[vx2 A M C N] w (RuleRes B C (A.kind == 2) w) := by
  obtain ⟨a, _, _, c, a', ab, ao, c', e1, _, _, _, e2, hma, hml, hkk⟩ := hA.parts
  obtain ⟨b, _, _, d, b', _, _, d', f1, _, _, _, f2, _⟩ := hC.parts
  have hvA : vx A M = .agg #[.int .i64 A.kind, .slice a A.n c, .slice a' A.m c'] := by rw [vx, e1, e2]
  have hvC : vx C N = .agg #[.int .i64 C.kind, .slice b C.n d, .slice b' C.m d'] := by rw [vx, f1, f2]
  have HVA : Hid (vx A M = .agg #[.int .i64 A.kind, .slice a A.n c, .slice a' A.m c']) := hvA
  have HVC : Hid (vx C N = .agg #[.int .i64 C.kind, .slice b C.n d, .slice b' C.m d']) := hvC
  have HSL : Hid ((M.sv = .slice a A.n c ∧ M.kv = .slice a' A.m c') ∧ N.sv = .slice b C.n d ∧ N.kv = .slice b' C.m d') := ⟨⟨e1, e2⟩, f1, f2⟩
  have HIA : Hid (In B w A M) := hA
  have HIC : Hid (In B w C N) := hC
  have HFIN : Hid (∀ w', Below w.heap.size w w' → RuleRes B C (A.kind == 2) w (.returned (.tuple #[.agg #[.int .i64 C.kind, .slice b C.n d, .slice b' C.m d'], .bool (A.kind == 2)])) w') := fun w' hb => ⟨N, by rw [HVC.out], (HIC.out.below hb).mono (fun k hk => .inl hk), hb⟩
  rw [vx2_eq hvA hvC]
  clear hvA hvC hA hC e1 e2 f1 f2 hkk hma HVA HVC HIA HIC HSL
  go_enter Tryd.func35, Tryd.ntmps35
  go_wp2_with fail
  go_region
  all_goals go_wp2_with fail
  all_goals
    refine bodyPost_ret (v := .tuple #[.agg #[.int .i64 C.kind, .slice b C.n d, .slice b' C.m d'], .bool (A.kind == 2)]) (by simp [results, Tryd.results35, go_sem]) rfl ?_
    refine HFIN.out _ ?_
    repeat (first | exact Below.refl _ _ | refine Below.alloc ?_ (by simp <;> omega) _ | refine Below.setCell ?_ (by simp <;> omega) _ | refine Below.drew ?_)

set_option maxHeartbeats 4000000 in
theorem catAheadOfEmpty_any {B : Nat → Prop} (A C : Sh) (M N : Mx) (w : World) (hA : In B w A M) (hC : In B w C N) : Calls Tryd.prog 36 #[vx2 A M C N] w (RuleRes B A (C.kind == 2) w) := by
  obtain ⟨a, _, _, c, a', ab, ao, c', e1, _, _, _, e2, hma, hml, hkk⟩ := hA.parts
  obtain ⟨b, _, _, d, b', _, _, d', f1, _, _, _, f2, _⟩ := hC.parts
  have hvA : vx A M = .agg #[.int .i64 A.kind, .slice a A.n c, .slice a' A.m c'] := by rw [vx, e1, e2]
  have hvC : vx C N = .agg #[.int .i64 C.kind, .slice b C.n d, .slice b' C.m d'] := by rw [vx, f1, f2]
  have HVA : Hid (vx A M = .agg #[.int .i64 A.kind, .slice a A.n c, .slice a' A.m c']) := hvA
  have HVC : Hid (vx C N = .agg #[.int .i64 C.kind, .slice b C.n d, .slice b' C.m d']) := hvC
  have HSL : Hid ((M.sv = .slice a A.n c ∧ M.kv = .slice a' A.m c') ∧ N.sv = .slice b C.n d ∧ N.kv = .slice b' C.m d') := ⟨⟨e1, e2⟩, f1, f2⟩
  have HIA : Hid (In B w A M) := hA
  have HIC : Hid (In B w C N) := hC
  have HFIN : Hid (∀ w', Below w.heap.size w w' → RuleRes B A (C.kind == 2) w (.returned (.tuple #[.agg #[.int .i64 A.kind, .slice a A.n c, .slice a' A.m c'], .bool (C.kind == 2)])) w') := fun w' hb => ⟨M, by rw [HVA.out], (HIA.out.below hb).mono (fun k hk => .inl hk), hb⟩
  rw [vx2_eq hvA hvC]
  clear hvA hvC hA hC e1 e2 f1 f2 hkk hma HVA HVC HIA HIC HSL
  go_enter Tryd.func36, Tryd.ntmps36
  go_wp2_with fail
  go_region
  all_goals go_wp2_with fail
  all_goals
    refine bodyPost_ret (v := .tuple #[.agg #[.int .i64 A.kind, .slice a A.n c, .slice a' A.m c'], .bool (C.kind == 2)]) (by simp [results, Tryd.results36, go_sem]) rfl ?_
    refine HFIN.out _ ?_
    repeat (first | exact Below.refl _ _ | refine Below.alloc ?_ (by simp <;> omega) _ | refine Below.setCell ?_ (by simp <;> omega) _ | refine Below.drew ?_)

set_option maxHeartbeats 4000000 in
theorem catOfBoth_any {B : Nat → Prop} (A C : Sh) (M N : Mx) (w : World) (hA : In B w A M) (hC : In B w C N) : Calls Tryd.prog 38 #[vx2 A M C N] w (RuleRes B (twoS 3 A C) true w) := by
  obtain ⟨a, _, _, c, a', ab, ao, c', e1, _, _, _, e2, hma, hml, hkk⟩ := hA.parts
  obtain ⟨b, _, _, d, b', _, _, d', f1, _, _, _, f2, _⟩ := hC.parts
  have hvA : vx A M = .agg #[.int .i64 A.kind, .slice a A.n c, .slice a' A.m c'] := by rw [vx, e1, e2]
  have hvC : vx C N = .agg #[.int .i64 C.kind, .slice b C.n d, .slice b' C.m d'] := by rw [vx, f1, f2]
  have HVA : Hid (vx A M = .agg #[.int .i64 A.kind, .slice a A.n c, .slice a' A.m c']) := hvA
  have HVC : Hid (vx C N = .agg #[.int .i64 C.kind, .slice b C.n d, .slice b' C.m d']) := hvC
  have HSL : Hid ((M.sv = .slice a A.n c ∧ M.kv = .slice a' A.m c') ∧ N.sv = .slice b C.n d ∧ N.kv = .slice b' C.m d') := ⟨⟨e1, e2⟩, f1, f2⟩
  have HIA : Hid (In B w A M) := hA
  have HIC : Hid (In B w C N) := hC
  have HTW : Hid (∀ V g, w.heap.size ≤ g → Below w.heap.size w V → V.cell? ⟨g, 0, none⟩ = some (.int .i64 A.kind) → V.cell? ⟨g, 1, none⟩ = some (.slice a A.n c) → V.cell? ⟨g, 2, none⟩ = some (.slice a' A.m c') → V.cell? ⟨g, 3, none⟩ = some (.int .i64 C.kind) → V.cell? ⟨g, 4, none⟩ = some (.slice b C.n d) → V.cell? ⟨g, 5, none⟩ = some (.slice b' C.m d') → RuleRes B (twoS 3 A C) true w (.returned (.tuple #[.agg #[.int .i64 3, .slice none 0 0, .slice (some ⟨g, 0, none⟩) 2 2], .bool true])) V) := fun V g hg hb c0 c1 c2 c3 c4 c5 => by
    refine ⟨twoM g M N, rfl, two_inB 3 (.inr hg) ((HIA.out.below hb).mono (fun k hk => .inl hk)) ((HIC.out.below hb).mono (fun k hk => .inl hk)) ⟨c0, ?_, ?_⟩ ⟨c3, ?_, ?_⟩, hb⟩
    · rw [HSL.out.1.1]; exact c1
    · rw [HSL.out.1.2]; exact c2
    · rw [HSL.out.2.1]; exact c4
    · rw [HSL.out.2.2]; exact c5
  rw [vx2_eq hvA hvC]
  clear hvA hvC hA hC e1 e2 f1 f2 hkk hma HVA HVC HIA HIC HSL
  go_enter Tryd.func38, Tryd.ntmps38
  go_wp2_with fail
  refine bodyPost_ret (v := .tuple #[.agg #[.int .i64 3, .slice none 0 0, .slice (some ⟨w.heap.size + 1 + 1, 0, none⟩) 2 2], .bool true]) (by simp [results, Tryd.results38, go_sem]) rfl ?_
  refine HTW.out _ (w.heap.size + 1 + 1) (by omega) ?_ (by simp [go_sem]) (by simp [go_sem]) (by simp [go_sem]) (by simp [go_sem]) (by simp [go_sem]) (by simp [go_sem])
  repeat (first | exact Below.refl _ _ | refine Below.alloc ?_ (by simp <;> omega) _ | refine Below.setCell ?_ (by simp <;> omega) _ | refine Below.drew ?_)
end Go.Proofs.YtiphmmgfmiiilaaDoor

