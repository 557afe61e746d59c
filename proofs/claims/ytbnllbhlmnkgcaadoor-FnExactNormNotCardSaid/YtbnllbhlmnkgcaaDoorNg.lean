/- The walks of isNothing, of the rules of NormStar and NormNot, of firstRule over one Rex, of makeStar and makeNot. -/
import Derived.Test.YtbnllbhlmnkgcaaDoorNf
import Derived.BigRegion
namespace Go.Proofs.YtbnllbhlmnkgcaaDoor
open Go.RowKit Go.Shelf
set_option linter.unusedVariables false
set_option linter.unusedSimpArgs false

set_option maxHeartbeats 1000000 in
theorem isNothing_any (S : Sh) (M : Mx) (w : World) (h : In AnyB w S M) : Calls Tryd.prog 173 #[vx S M] w fun e w' => e = .returned (.bool (noB S)) ∧ Below w.heap.size w w' := by
  obtain ⟨a, c, a', c', hv⟩ := h.value'
  rw [hv]
  have HR : Hid (noB S = (S.kind == 1 && S.n == 0)) := rfl
  obtain ⟨kd, hkd⟩ : ∃ kd, S.kind = kd := ⟨_, rfl⟩
  obtain ⟨n, hn⟩ : ∃ n, S.n = n := ⟨_, rfl⟩
  obtain ⟨m, hm⟩ : ∃ m, S.m = m := ⟨_, rfl⟩
  rw [hkd, hn] at HR
  rw [hkd, hn, hm]
  clear hkd hn hm hv h
  by_cases h1 : kd = 1
  · have hk1 : (kd == 1) = true := by simpa using h1
    have H1 : Hid (kd = 1) := h1
    clear h1
    go_enter Tryd.func173, Tryd.ntmps173
    go_wp2_with fail
    go_ret
    exact ⟨ret_bool (by rw [HR.out, H1.out, beq0]; simp), (Below.refl _ _).alloc (Nat.le_refl _) _⟩
  · have hk1 : (kd == 1) = false := by simpa using h1
    go_enter Tryd.func173, Tryd.ntmps173
    go_wp2_with fail
    go_ret
    exact ⟨ret_bool (by rw [HR.out, hk1]; rfl), (Below.refl _ _).alloc (Nat.le_refl _) _⟩


theorem one_inB {B : Nat → Prop} {w : World} {S : Sh} {M : Mx} {b : Nat} (k : Int) (hB : B b) (h : In B w S M) (hk : Kid w b 0 S M) : In B w (oneS k S) (oneM b M) := by
  refine ⟨none, 0, 0, 0, some ⟨b, 0, none⟩, b, 0, 1, rfl, fun h => absurd h (Nat.lt_irrefl _), fun i hi => absurd hi (Nat.not_lt_zero _), by omega, rfl, fun _ => ⟨rfl, hB⟩, by omega, fun i hi => ?_⟩
  obtain rfl : i = 0 := by omega
  exact ⟨hk, h⟩
/-- a rule tells that Rex, and whether it applies; it lies in blocks of B, or in new ones -/
def RuleRes (B : Nat → Prop) (S : Sh) (ok : Bool) (w : World) (e : Ending) (w' : World) : Prop := ∃ M, e = .returned (.tuple #[vx S M, .bool ok]) ∧ In (fun k => B k ∨ w.heap.size ≤ k) w' S M ∧ Below w.heap.size w w'
/-- the answer is that Rex, in blocks of B, or in new ones -/
def ShResB (B : Nat → Prop) (S : Sh) (w : World) (e : Ending) (w' : World) : Prop := ∃ M, e = .returned (vx S M) ∧ In (fun k => B k ∨ w.heap.size ≤ k) w' S M ∧ Below w.heap.size w w'
theorem in3 {B : Nat → Prop} {w : World} {b : Nat} (hB : ∀ k, B k → k ≠ b) (u0 u1 u2 : Value) {S : Sh} {M : Mx} (hi : In B w S M) : In B (((w.setCell ⟨b, 0, none⟩ u0).setCell ⟨b, 1, none⟩ u1).setCell ⟨b, 2, none⟩ u2) S M :=
  hi.keep (fun k hk _ => keep3 w b 0 1 2 u0 u1 u2 (hB k hk))

set_option maxRecDepth 100000 in
set_option maxHeartbeats 2000000 in
theorem firstRule_any {B0 : Nat → Prop} (S : Sh) (M : Mx) (w : World) (h : In B0 w S M) (hB0 : ∀ k, B0 k → k < w.heap.size) (n rb : Nat) (f : Nat → FuncId) (R : Nat → Sh) (B : Nat → Bool) (k0 : Nat) (hk0 : k0 < n) (hn : n ≤ 10)
    (hcell : ∀ i, i < n → w.cell? ⟨rb, i, none⟩ = some (.func (.func (f i)) #[] #[]))
    (hent : ∀ i, i < n → ∀ args w, (callFunc (f i) args).run Tryd.prog w = .ok (.enter (f i) args) w)
    (hcall : ∀ i, i < n → ∀ w1, Below w.heap.size w w1 → Calls Tryd.prog (f i) #[vx S M] w1 (RuleRes B0 (R i) (B i) w1))
    (hB : B k0 = true) (hlt : ∀ i, i < k0 → B i = false) :
    Calls Tryd.prog 145 #[vx S M, .slice (some ⟨rb, 0, none⟩) n n] w (ShResB B0 (R k0) w) := by
  obtain ⟨a, c, a', c', hv⟩ := h.value'
  rw [hv] at hcall ⊢
  have HCELL : Hid (∀ i, i < n → w.cell? ⟨rb, i, none⟩ = some (.func (.func (f i)) #[] #[])) := hcell
  have HENT : Hid (∀ i, i < n → ∀ args w, (callFunc (f i) args).run Tryd.prog w = .ok (.enter (f i) args) w) := hent
  have HCALL : Hid (∀ i, i < n → ∀ w1, Below w.heap.size w w1 → Calls Tryd.prog (f i) #[.agg #[.int .i64 S.kind, .slice a S.n c, .slice a' S.m c']] w1 (RuleRes B0 (R i) (B i) w1)) := hcall
  have HBB : Hid (B k0 = true ∧ ∀ i, i < k0 → B i = false) := ⟨hB, hlt⟩
  have hb0 : Below w.heap.size w ((w.alloc (.cells #[.int .i64 S.kind, .slice a S.n c, .slice a' S.m c'] 26)).alloc (.cells #[.int .i64 0, .slice none 0 0, .slice none 0 0] 26)) := below_two _ _ _
  have HRB0 : Hid (Rb ((w.alloc (.cells #[.int .i64 S.kind, .slice a S.n c, .slice a' S.m c'] 26)).alloc (.cells #[.int .i64 0, .slice none 0 0, .slice none 0 0] 26)) (w.heap.size + 1)) := by
    have := Rb.new (w.alloc (.cells #[.int .i64 S.kind, .slice a S.n c, .slice a' S.m c'] 26)) (.int .i64 0) (.slice none 0 0) (.slice none 0 0)
    rwa [size_new] at this
  clear hv h hcell hent hcall hB hlt
  go_enter Tryd.func145, Tryd.ntmps145
  go_wp2_with fail
  go_loopw [11] (fun ix wr => ∃ k : Nat, k ≤ k0 ∧ ix = .int .i64 k ∧ wr.cell? ⟨w.heap.size, 0, none⟩ = some (.int .i64 S.kind) ∧ wr.cell? ⟨w.heap.size, 1, none⟩ = some (.slice a S.n c) ∧ wr.cell? ⟨w.heap.size, 2, none⟩ = some (.slice a' S.m c') ∧ Hid (Rb wr (w.heap.size + 1)) ∧ Hid (Below w.heap.size w wr)) (fun ix _ => n - (intOf ix).toNat)
  case atStart => exact ⟨0, Nat.zero_le _, rfl, by simp [go_sem], by simp [go_sem], by simp [go_sem], HRB0, hb0⟩
  case round =>
    obtain ⟨k, hk, rfl, c0, c1, c2, HRB, HBW⟩ := hrel
    have hkn : k < n := by omega
    have hltz : (k : Int) < (n : Int) := by omega
    have hrc := HCELL.out k hkn
    have rc : wr.cell? ⟨rb, k, none⟩ = some (.func (.func (f k)) #[] #[]) := (HBW.out.cell (p := ⟨rb, k, none⟩) (World.block_lt_of_cell? _ _ hrc)).trans hrc
    have hen := HENT.out k hkn
    have HC : Hid (Calls Tryd.prog (f k) #[.agg #[.int .i64 S.kind, .slice a S.n c, .slice a' S.m c']] wr (RuleRes B0 (R k) (B k) wr)) := HCALL.out k hkn wr HBW.out
    obtain ⟨bk, hbk⟩ : ∃ bk, B k = bk := ⟨_, rfl⟩
    have HBK : Hid (B k = bk) := hbk
    rw [hbk] at HC
    clear hrc hbk
    go_wp2_with fail
    refine HC.out.mono ?_
    rintro e w1 ⟨M1, rfl, hin1, hb1⟩
    obtain ⟨x1, x2, x3, x4, hv1⟩ := hin1.value'
    have HV1 : Hid (vx (R k) M1 = .agg #[.int .i64 (R k).kind, .slice x1 (R k).n x2, .slice x3 (R k).m x4]) := hv1
    rw [hv1]
    have HIN1 : Hid (In (fun k => B0 k ∨ wr.heap.size ≤ k) w1 (R k) M1) := hin1
    have hsr : w.heap.size + 1 < wr.heap.size := HRB.out.lt
    obtain ⟨hc1, hf1⟩ := bcell hb1
    have hlt0 := World.block_lt_of_cell? _ _ c0
    have d0 : w1.cell? ⟨w.heap.size, 0, none⟩ = some (.int .i64 S.kind) := (hc1 _ _ hlt0).trans c0
    have d1 : w1.cell? ⟨w.heap.size, 1, none⟩ = some (.slice a S.n c) := (hc1 _ _ hlt0).trans c1
    have d2 : w1.cell? ⟨w.heap.size, 2, none⟩ = some (.slice a' S.m c') := (hc1 _ _ hlt0).trans c2
    have HRB1 : Hid (Rb w1 (w.heap.size + 1)) := HRB.out.of_block (hb1.block _ HRB.out.lt)
    have HBW1 : Hid (Below w.heap.size w w1) := HBW.out.trans (hb1.mono HBW.out.size)
    have hs1 : w.heap.size + 1 < w1.heap.size := HRB1.out.lt
    clear hc1 hf1 hlt0 hb1 hin1 hv1 c0 c1 c2 rc
    cases bk with
    | false =>
      have hne : k ≠ k0 := fun e => by have := HBB.out.1; rw [← e, HBK.out] at this; cases this
      have hlt : k < k0 := by omega
      go_wp2_with fail
      go_roundw
      case rel =>
        refine ⟨k + 1, by omega, by go_num, ?_, ?_, ?_, HRB1.out.of_block ((below_new w1 _).block _ HRB1.out.lt), HBW1.out.trans ((below_new w1 _).mono HBW1.out.size)⟩
        · exact ((below_new w1 _).cell (p := ⟨w.heap.size, 0, none⟩) (World.block_lt_of_cell? _ _ d0)).trans d0
        · exact ((below_new w1 _).cell (p := ⟨w.heap.size, 1, none⟩) (World.block_lt_of_cell? _ _ d1)).trans d1
        · exact ((below_new w1 _).cell (p := ⟨w.heap.size, 2, none⟩) (World.block_lt_of_cell? _ _ d2)).trans d2
      case measure => simp [intOf]; omega
    | true =>
      have HK0 : Hid (k = k0) := by
        rcases Nat.lt_or_eq_of_le hk with h | h
        · have := HBB.out.2 k h; rw [HBK.out] at this; cases this
        · exact h
      obtain ⟨⟨b0', e0⟩, ⟨b1', e1⟩, ⟨b2', e2⟩, ef⟩ := HRB1.out.cells
      obtain ⟨X, hX⟩ : ∃ X : Obj, X = .cells #[.int .i64 (R k).kind, .slice x1 (R k).n x2, .slice x3 (R k).m x4] 26 := ⟨_, rfl⟩
      go_wp2_with fail
      refine bodyPost_ret (v := .agg #[.int .i64 (R k).kind, .slice x1 (R k).n x2, .slice x3 (R k).m x4]) (by simp [results, Tryd.results145, go_sem, e0, e1, e2, hs1]) rfl ?_
      rw [← HK0.out]
      have hin3 : In (fun k => B0 k ∨ wr.heap.size ≤ k) (((w1.setCell ⟨w.heap.size + 1, 0, none⟩ (.int .i64 (R k).kind)).setCell ⟨w.heap.size + 1, 1, none⟩ (.slice x1 (R k).n x2)).setCell ⟨w.heap.size + 1, 2, none⟩ (.slice x3 (R k).m x4)) (R k) M1 := in3 (fun x hx => by
        rcases hx with hx | hx
        · have := hB0 x hx; omega
        · omega) _ _ _ HIN1.out
      exact ⟨M1, by rw [HV1.out], (hin3.below (below_new _ _)).mono (fun x hx => hx.imp (fun h => h) (fun h => by omega)), (((HBW1.out.setCell (by simp) _).setCell (by simp) _).setCell (by simp) _).alloc (by simp; omega) _⟩

theorem enters146 : ∀ args w, (callFunc 146 args).run Tryd.prog w = .ok (.enter 146 args) w := enters_of Tryd.func146 (by kernel_rfl) rfl
theorem enters147 : ∀ args w, (callFunc 147 args).run Tryd.prog w = .ok (.enter 147 args) w := enters_of Tryd.func147 (by kernel_rfl) rfl
theorem enters148 : ∀ args w, (callFunc 148 args).run Tryd.prog w = .ok (.enter 148 args) w := enters_of Tryd.func148 (by kernel_rfl) rfl
theorem enters149 : ∀ args w, (callFunc 149 args).run Tryd.prog w = .ok (.enter 149 args) w := enters_of Tryd.func149 (by kernel_rfl) rfl
theorem enters150 : ∀ args w, (callFunc 150 args).run Tryd.prog w = .ok (.enter 150 args) w := enters_of Tryd.func150 (by kernel_rfl) rfl

set_option maxHeartbeats 2000000 in
theorem starOfStar_any {B : Nat → Prop} (S : Sh) (M : Mx) (w : World) (h : In B w S M) : Calls Tryd.prog 146 #[vx S M] w (RuleRes B S (S.kind == 5) w) := by
  obtain ⟨a, b, off, c, a', b', off', c', e1, _, _, _, e2, hma, hml, hkk⟩ := h.parts
  have hv : vx S M = .agg #[.int .i64 S.kind, .slice a S.n c, .slice a' S.m c'] := by rw [vx, e1, e2]
  have HV : Hid (vx S M = .agg #[.int .i64 S.kind, .slice a S.n c, .slice a' S.m c']) := hv
  have HE : Hid (M.sv = .slice a S.n c ∧ M.kv = .slice a' S.m c') := ⟨e1, e2⟩
  rw [hv]
  have HI : Hid (In B w S M) := h
  obtain ⟨kd, hkd⟩ : ∃ kd, S.kind = kd := ⟨_, rfl⟩
  have HKD : Hid (S.kind = kd) := hkd
  rw [hkd] at HV ⊢
  obtain ⟨n, hn⟩ : ∃ n, S.n = n := ⟨_, rfl⟩
  obtain ⟨m, hm⟩ : ∃ m, S.m = m := ⟨_, rfl⟩
  rw [hn, hm] at HV HE ⊢

  have HFIN : Hid (∀ w', Below w.heap.size w w' → RuleRes B S (kd == 5) w (.returned (.tuple #[.agg #[.int .i64 kd, .slice a n c, .slice a' m c'], .bool (kd == 5)])) w') := fun w' hb => ⟨M, by rw [HV.out], (HI.out.below hb).mono (fun k hk => .inl hk), hb⟩
  clear hv h e1 e2 hkd hn hm hkk hma HV HI HE
  go_enter Tryd.func146, Tryd.ntmps146
  go_wp2_with fail
  go_region
  all_goals go_wp2_with fail
  all_goals
    refine bodyPost_ret (v := .tuple #[.agg #[.int .i64 kd, .slice a n c, .slice a' m c'], .bool (kd == 5)]) (by simp [results, Tryd.results146, go_sem]) rfl ?_
    refine HFIN.out _ ?_
    repeat (first | exact Below.refl _ _ | refine Below.alloc ?_ (by simp <;> omega) _ | refine Below.setCell ?_ (by simp <;> omega) _ | refine Below.drew ?_)

set_option maxHeartbeats 2000000 in
theorem starOfNoByte_any {B : Nat → Prop} (S : Sh) (M : Mx) (w : World) (h : In B w S M) : Calls Tryd.prog 147 #[vx S M] w (RuleRes B (zeroS 2) (S.kind == 2 || noB S) w) := by
  have HNO : Hid (∀ w1, Below w.heap.size w w1 → Calls Tryd.prog 173 #[vx S M] w1 fun e w' => e = .returned (.bool (noB S)) ∧ Below w1.heap.size w1 w') := fun w1 hb => isNothing_any S M w1 ((h.mono (fun _ _ => trivial)).below hb)
  obtain ⟨a, b, off, c, a', b', off', c', e1, _, _, _, e2, hma, hml, hkk⟩ := h.parts
  have hv : vx S M = .agg #[.int .i64 S.kind, .slice a S.n c, .slice a' S.m c'] := by rw [vx, e1, e2]
  have HV : Hid (vx S M = .agg #[.int .i64 S.kind, .slice a S.n c, .slice a' S.m c']) := hv
  have HE : Hid (M.sv = .slice a S.n c ∧ M.kv = .slice a' S.m c') := ⟨e1, e2⟩
  rw [hv] at HNO
  rw [hv]
  have HI : Hid (In B w S M) := h
  obtain ⟨kd, hkd⟩ : ∃ kd, S.kind = kd := ⟨_, rfl⟩
  have HKD : Hid (S.kind = kd) := hkd
  rw [hkd] at HV ⊢
  obtain ⟨n, hn⟩ : ∃ n, S.n = n := ⟨_, rfl⟩
  obtain ⟨m, hm⟩ : ∃ m, S.m = m := ⟨_, rfl⟩
  rw [hn, hm] at HV HE ⊢
  rw [hkd, hn, hm] at HNO
  obtain ⟨nb, hnb⟩ : ∃ nb, noB S = nb := ⟨_, rfl⟩
  rw [hnb] at HNO ⊢
  have HFIN : Hid (∀ ok w', (kd == 2 || nb) = ok → Below w.heap.size w w' → RuleRes B (zeroS 2) (kd == 2 || nb) w (.returned (.tuple #[.agg #[.int .i64 2, .slice none 0 0, .slice none 0 0], .bool ok])) w') := fun ok w' he hb => by rw [he]; exact ⟨Mx.no, rfl, zero_in _ _ _, hb⟩
  clear hv h e1 e2 hkd hn hm hkk hma HV HI HE hnb
  have hb0 : Below w.heap.size w ((w.alloc (.cells #[.int .i64 kd, .slice a n c, .slice a' m c'] 26)).alloc (.cells #[.int .i64 0, .slice none 0 0, .slice none 0 0] 26)) := below_two _ _ _
  by_cases h2 : kd = 2
  · have hk2 : (kd == 2) = true := by simpa using h2
    have H2 : Hid ((kd == 2 || nb) = true) := by simp [Hid, h2]
    clear h2
    go_enter Tryd.func147, Tryd.ntmps147
    go_wp2_with fail
    refine bodyPost_ret (v := .tuple #[.agg #[.int .i64 2, .slice none 0 0, .slice none 0 0], .bool true]) (by simp [results, Tryd.results147, go_sem]) rfl ?_
    exact HFIN.out _ _ H2.out (below_two _ _ _)
  · have hk2 : (kd == 2) = false := by simpa using h2
    have H2 : Hid ((kd == 2 || nb) = nb) := by simp [Hid, h2]
    clear h2
    go_enter Tryd.func147, Tryd.ntmps147
    go_wp2_with fail
    refine (HNO.out _ hb0).mono ?_
    rintro e w1 ⟨rfl, hb1⟩
    have HRB1 : Hid (Rb w1 (w.heap.size + 1)) := by
      have := (Rb.new (w.alloc (.cells #[.int .i64 kd, .slice a n c, .slice a' m c'] 26)) (.int .i64 0) (.slice none 0 0) (.slice none 0 0)).of_block (hb1.block _ (by simp))
      rwa [size_new] at this
    have HB1 : Hid (Below w.heap.size w w1) := hb0.trans (hb1.mono hb0.size)
    obtain ⟨⟨b0', d0⟩, ⟨b1', d1⟩, ⟨b2', d2⟩, df⟩ := HRB1.out.cells
    clear hb1
    go_wp2_with fail
    refine bodyPost_ret (v := .tuple #[.agg #[.int .i64 2, .slice none 0 0, .slice none 0 0], .bool nb]) (by simp [results, Tryd.results147, go_sem, d0, d1, d2]) rfl ?_
    exact HFIN.out _ _ H2.out (((HB1.out.setCell (by simp) _).setCell (by simp) _).setCell (by simp) _)

set_option maxHeartbeats 2000000 in
theorem starOfAny_any {B : Nat → Prop} (S : Sh) (M : Mx) (w : World) (h : In B w S M) : Calls Tryd.prog 148 #[vx S M] w (RuleRes B (oneS 5 S) true w) := by
  obtain ⟨a, b, off, c, a', b', off', c', e1, _, _, _, e2, hma, hml, hkk⟩ := h.parts
  have hv : vx S M = .agg #[.int .i64 S.kind, .slice a S.n c, .slice a' S.m c'] := by rw [vx, e1, e2]
  have HV : Hid (vx S M = .agg #[.int .i64 S.kind, .slice a S.n c, .slice a' S.m c']) := hv
  have HE : Hid (M.sv = .slice a S.n c ∧ M.kv = .slice a' S.m c') := ⟨e1, e2⟩
  rw [hv]
  have HI : Hid (In B w S M) := h
  obtain ⟨kd, hkd⟩ : ∃ kd, S.kind = kd := ⟨_, rfl⟩
  have HKD : Hid (S.kind = kd) := hkd
  rw [hkd] at HV ⊢
  obtain ⟨n, hn⟩ : ∃ n, S.n = n := ⟨_, rfl⟩
  obtain ⟨m, hm⟩ : ∃ m, S.m = m := ⟨_, rfl⟩
  rw [hn, hm] at HV HE ⊢
  have HO : Hid (∀ w' b, w.heap.size ≤ b → Below w.heap.size w w' → w'.cell? ⟨b, 0, none⟩ = some (.int .i64 kd) → w'.cell? ⟨b, 1, none⟩ = some (.slice a n c) → w'.cell? ⟨b, 2, none⟩ = some (.slice a' m c') → RuleRes B (oneS 5 S) true w (.returned (.tuple #[.agg #[.int .i64 5, .slice none 0 0, .slice (some ⟨b, 0, none⟩) 1 1], .bool true])) w') := fun w' b hbb hb c0 c1 c2 =>
    ⟨oneM b M, rfl, one_inB 5 (.inr hbb) ((HI.out.below hb).mono (fun k hk => .inl hk)) ⟨by rw [HKD.out]; exact c0, by rw [HE.out.1]; exact c1, by rw [HE.out.2]; exact c2⟩, hb⟩
  clear hv h e1 e2 hkd hn hm hkk hma HV HI HE HKD
  go_enter Tryd.func148, Tryd.ntmps148
  go_wp2_with fail
  refine bodyPost_ret (v := .tuple #[.agg #[.int .i64 5, .slice none 0 0, .slice (some ⟨w.heap.size + 1 + 1, 0, none⟩) 1 1], .bool true]) (by simp [results, Tryd.results148, go_sem]) rfl ?_
  refine HO.out _ (w.heap.size + 1 + 1) (by omega) ?_ (by simp [go_sem]) (by simp [go_sem]) (by simp [go_sem])
  repeat (first | exact Below.refl _ _ | refine Below.alloc ?_ (by simp <;> omega) _ | refine Below.setCell ?_ (by simp <;> omega) _)

set_option maxHeartbeats 2000000 in
theorem notOfAny_any {B : Nat → Prop} (S : Sh) (M : Mx) (w : World) (h : In B w S M) : Calls Tryd.prog 150 #[vx S M] w (RuleRes B (oneS 7 S) true w) := by
  obtain ⟨a, b, off, c, a', b', off', c', e1, _, _, _, e2, hma, hml, hkk⟩ := h.parts
  have hv : vx S M = .agg #[.int .i64 S.kind, .slice a S.n c, .slice a' S.m c'] := by rw [vx, e1, e2]
  have HV : Hid (vx S M = .agg #[.int .i64 S.kind, .slice a S.n c, .slice a' S.m c']) := hv
  have HE : Hid (M.sv = .slice a S.n c ∧ M.kv = .slice a' S.m c') := ⟨e1, e2⟩
  rw [hv]
  have HI : Hid (In B w S M) := h
  obtain ⟨kd, hkd⟩ : ∃ kd, S.kind = kd := ⟨_, rfl⟩
  have HKD : Hid (S.kind = kd) := hkd
  rw [hkd] at HV ⊢
  obtain ⟨n, hn⟩ : ∃ n, S.n = n := ⟨_, rfl⟩
  obtain ⟨m, hm⟩ : ∃ m, S.m = m := ⟨_, rfl⟩
  rw [hn, hm] at HV HE ⊢
  have HO : Hid (∀ w' b, w.heap.size ≤ b → Below w.heap.size w w' → w'.cell? ⟨b, 0, none⟩ = some (.int .i64 kd) → w'.cell? ⟨b, 1, none⟩ = some (.slice a n c) → w'.cell? ⟨b, 2, none⟩ = some (.slice a' m c') → RuleRes B (oneS 7 S) true w (.returned (.tuple #[.agg #[.int .i64 7, .slice none 0 0, .slice (some ⟨b, 0, none⟩) 1 1], .bool true])) w') := fun w' b hbb hb c0 c1 c2 =>
    ⟨oneM b M, rfl, one_inB 7 (.inr hbb) ((HI.out.below hb).mono (fun k hk => .inl hk)) ⟨by rw [HKD.out]; exact c0, by rw [HE.out.1]; exact c1, by rw [HE.out.2]; exact c2⟩, hb⟩
  clear hv h e1 e2 hkd hn hm hkk hma HV HI HE HKD
  go_enter Tryd.func150, Tryd.ntmps150
  go_wp2_with fail
  refine bodyPost_ret (v := .tuple #[.agg #[.int .i64 7, .slice none 0 0, .slice (some ⟨w.heap.size + 1 + 1, 0, none⟩) 1 1], .bool true]) (by simp [results, Tryd.results150, go_sem]) rfl ?_
  refine HO.out _ (w.heap.size + 1 + 1) (by omega) ?_ (by simp [go_sem]) (by simp [go_sem]) (by simp [go_sem])
  repeat (first | exact Below.refl _ _ | refine Below.alloc ?_ (by simp <;> omega) _ | refine Below.setCell ?_ (by simp <;> omega) _)
end Go.Proofs.YtbnllbhlmnkgcaaDoor
