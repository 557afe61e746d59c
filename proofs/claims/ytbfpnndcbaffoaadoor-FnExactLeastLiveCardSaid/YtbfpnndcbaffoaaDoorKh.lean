/- the walks of l8Live and LeastLive of the model -/
import Derived.Test.YtbfpnndcbaffoaaDoorKg
import Derived.Test.YtbfpnndcbaffoaaDoorKb
namespace Go.Proofs.YtbfpnndcbaffoaaDoor
open Go.RowKit
set_option linter.unusedVariables false
set_option linter.unusedSimpArgs false

theorem kInfoB : (Tryd.prog.info? 4).map (fun i => (i.zero, i.size, i.bytes)) = some (some (.bool false), 1, 1) := by kernel_rfl
theorem makeB (n : Nat) (hn : n ≤ 1048576) (w : World) : (Instr.makeSlice 28 (.int .i64 n) (.int .i64 n)).run Tryd.prog w = .ok (.slice (some ⟨w.heap.size, 0, none⟩) n n) (w.alloc (.cells (madeCells #[.bool false] n) 4)) := by
  obtain ⟨i0, hi, hz0, hz1, hz2⟩ := info_parts kInfoB
  have h := run_make (P := Tryd.prog) w 28 4 i0 _ Tryd.underlying28 hi hz0 .i64 .i64 n n (by omega) (by omega) (by rw [hz2]; omega) (by omega)
  rw [hz1] at h
  simpa [Value.cells] using h
theorem made_B (w : World) (n : Nat) : (w.alloc (.cells (madeCells #[.bool false] n) 4)).rowIs w.heap.size 4 n (fun j => .bool ((fun _ => false) j)) := by
  have h := made_one w n 4 (.bool false) (fun _ => .bool false)
  exact h.congr (fun j _ => by simp)
/-- F, and x at k -/
def setB (F : Nat → Bool) (k : Nat) (x : Bool) (j : Nat) : Bool := if j = k then x else F j
theorem row_setB {w : World} {b n : Nat} {t : TypeId} {F : Nat → Bool} (h : w.rowIs b t n (fun j => .bool (F j))) (k : Nat) (x : Bool) : (w.setCell ⟨b, k, none⟩ (.bool x)).rowIs b t n (fun j => .bool (setB F k x j)) :=
  (h.set k (.bool x)).congr (fun j _ => by unfold setB; by_cases e : j = k <;> simp [e])

/-- a new list of which P -/
def NewB (P : Nat → (Nat → Bool) → Prop) (w : World) (e : Ending) (w' : World) : Prop := ∃ (a : Option Addr) (b n c : Nat) (F : Nat → Bool), e = .returned (.slice a n c) ∧ (0 < n → a = some ⟨b, 0, none⟩ ∧ w.heap.size ≤ b ∧ w'.rowIs b 4 n (fun j => .bool (F j))) ∧ P n F ∧ Below w.heap.size w w'
theorem NewB.mk' {P : Nat → (Nat → Bool) → Prop} {w w' : World} {a : Option Addr} {b n c : Nat} {F : Nat → Bool} (h : 0 < n → a = some ⟨b, 0, none⟩ ∧ w.heap.size ≤ b ∧ w'.rowIs b 4 n (fun j => .bool (F j))) (hp : P n F) (hb : Below w.heap.size w w') : NewB P w (.returned (.slice a n c)) w' := ⟨a, b, n, c, F, rfl, h, hp, hb⟩

/-- what is known when state s is come to in round j, k parts of it being looked at -/
structure Pass (D : Dx) (j s k : Nat) (F : Nat → Bool) : Prop where
  sound : ∀ t, t < D.rn → F t = true → Live D t
  old : ∀ t i, t < D.rn → i < j → LiveB D i t = true → F t = true
  now : ∀ t, t < s → t < D.rn → LiveB D j t = true → F t = true
  acc : 0 < k → 0 ≤ D.A s → F s = true
  part : ∀ q, q + 1 < k → 0 ≤ D.R.G s q → (∃ i, i < j ∧ LiveB D i (D.R.G s q).toNat = true) → F s = true
theorem Pass.set {D : Dx} {j s k : Nat} {F : Nat → Bool} (h : Pass D j s k F) (hs : s < D.rn) {x : Bool} (hx : F s = true → x = true) (hl : x = true → Live D s) : Pass D j s k (setB F s x) := by
  have up : ∀ t, F t = true → setB F s x t = true := fun t ht => by
    unfold setB
    by_cases e : t = s
    · subst e; rw [if_pos rfl]; exact hx ht
    · rw [if_neg e]; exact ht
  refine ⟨fun t ht hF => ?_, fun t i ht hi hl => up t (h.old t i ht hi hl), fun t ht ht' hl => up t (h.now t ht ht' hl), fun h0 ha => up s (h.acc h0 ha), fun q hq h0 he => up s (h.part q hq h0 he)⟩
  unfold setB at hF
  by_cases e : t = s
  · subst e; rw [if_pos rfl] at hF; exact hl hF
  · rw [if_neg e] at hF; exact h.sound t ht hF
/-- the acc is looked at -/
theorem Pass.first {D : Dx} {j s : Nat} {F : Nat → Bool} (h : Pass D j s 0 F) (hs : s < D.rn) : Pass D j s 1 (setB F s (F s || decide (0 ≤ D.A s))) := by
  have h1 := h.set hs (x := F s || decide (0 ≤ D.A s)) (fun e => by rw [e]; rfl) (fun e => by
    rw [Bool.or_eq_true, decide_eq_true_eq] at e
    rcases e with e | e
    · exact h.sound s hs e
    · exact Live.acc e)
  refine ⟨h1.sound, h1.old, h1.now, fun _ ha => ?_, fun q hq => by omega⟩
  unfold setB
  rw [if_pos rfl, Bool.or_eq_true, decide_eq_true_eq]
  exact .inr ha
theorem Pass.next {D : Dx} (hd : DOk D) {j s k : Nat} {F : Nat → Bool} (h : Pass D j s (k + 1) F) (hs : s < D.rn) (hk : k < D.pn) : Pass D j s (k + 2) (setB F s (F s || (decide (0 ≤ D.R.G s k) && F (D.R.G s k).toNat))) := by
  have h1 := h.set hs (x := F s || (decide (0 ≤ D.R.G s k) && F (D.R.G s k).toNat)) (fun e => by rw [e]; rfl) (fun e => by
    rw [Bool.or_eq_true, Bool.and_eq_true, decide_eq_true_eq] at e
    rcases e with e | ⟨e1, e2⟩
    · exact h.sound s hs e
    · exact Live.step hk e1 (h.sound _ (to_lt hd hs hk e1) e2))
  refine ⟨h1.sound, h1.old, h1.now, fun _ ha => h1.acc (by omega) ha, fun q hq h0 he => ?_⟩
  by_cases e : q = k
  · subst e
    obtain ⟨i, hi, hl⟩ := he
    unfold setB
    rw [if_pos rfl, Bool.or_eq_true, Bool.and_eq_true, decide_eq_true_eq]
    exact .inr ⟨h0, h.old _ i (to_lt hd hs hk h0) hi hl⟩
  · exact h1.part q (by omega) h0 he
theorem Pass.done {D : Dx} {j s : Nat} {F : Nat → Bool} (h : Pass D j s (D.pn + 1) F) (hs : s < D.rn) : Pass D j (s + 1) 0 F := by
  refine ⟨h.sound, h.old, fun t ht ht' hl => ?_, fun h0 => absurd h0 (Nat.lt_irrefl _), fun q hq => by omega⟩
  by_cases e : t = s
  · subst e
    cases j with
    | zero =>
      simp only [LiveB, decide_eq_true_eq] at hl
      exact h.acc (by omega) hl
    | succ j =>
      rw [LiveB, Bool.or_eq_true] at hl
      rcases hl with hl | hl
      · exact h.old t j ht' (by omega) hl
      · obtain ⟨q, hq, h0, h1⟩ := anyTo_iff.1 hl
        exact h.part q (by omega) h0 ⟨j, by omega, h1⟩
  · exact h.now t (by omega) ht' hl
theorem Pass.round {D : Dx} {j : Nat} {F : Nat → Bool} (h : Pass D j D.rn 0 F) : Pass D (j + 1) 0 0 F :=
  ⟨h.sound, fun t i ht hi hl => (by
    by_cases e : i = j
    · subst e; exact h.now t ht ht hl
    · exact h.old t i ht (by omega) hl), fun t ht => (by omega), fun h0 => absurd h0 (Nat.lt_irrefl _), fun q hq => (by omega)⟩
theorem Pass.start (D : Dx) : Pass D 0 0 0 (fun _ => false) := ⟨fun t _ h => (by cases h), fun t i _ hi => (by omega), fun t ht => (by omega), fun h0 => absurd h0 (Nat.lt_irrefl _), fun q hq => by omega⟩
theorem Pass.lives {D : Dx} (hd : DOk D) {F : Nat → Bool} (h : Pass D (D.rn + 1) 0 0 F) : LivesF D D.rn F := ⟨rfl, fun s hs => ⟨h.sound s hs, fun hl => h.old s D.rn hs (by omega) (live_within hd hs hl)⟩⟩

set_option maxRecDepth 100000 in
set_option maxHeartbeats 2000000 in
theorem specLive_any (D : Dx) (w : World) (h : DIn w D) (hm : DLe D 4194304) (hd : DOk D) :
    Calls Tryd.prog 26 #[dv D] w (NewB (LivesF D) w) := by
  obtain ⟨W0, hW0⟩ : ∃ W0, W0 = w.alloc (.cells #[.slice D.pa D.pn D.pc, .slice D.ra D.rn D.rc, .slice D.aa D.an D.ac] 32) := ⟨_, rfl⟩
  have hb0 : Below w.heap.size w W0 := by rw [hW0]; exact (Below.refl _ _).alloc (Nat.le_refl _) _
  have hrn1 : 1 ≤ D.rn := hd.2.1.1
  have hrn2 : D.rn ≤ 40 := hd.2.1.2.1
  have han : D.an = D.rn := hd.2.2.1
  have hpn4 : D.pn ≤ 4194304 := hm.p
  have hra : D.ra = some ⟨D.rb, D.roff, none⟩ := h.rg (by omega)
  have haa : D.aa = some ⟨D.ab, D.aoff, none⟩ := h.ag (by omega)
  have HX : Hid (∀ V, Below W0.heap.size W0 V → V.cell? ⟨w.heap.size, 0, none⟩ = some (.slice D.pa D.pn D.pc) ∧ V.cell? ⟨w.heap.size, 1, none⟩ = some (.slice (some ⟨D.rb, D.roff, none⟩) D.rn D.rc) ∧ V.cell? ⟨w.heap.size, 2, none⟩ = some (.slice (some ⟨D.ab, D.aoff, none⟩) D.an D.ac)) := fun V hV => by
    rw [hra, haa] at hW0
    refine ⟨((bcell hV).1 _ _ (by rw [hW0]; simp)).trans ?_, ((bcell hV).1 _ _ (by rw [hW0]; simp)).trans ?_, ((bcell hV).1 _ _ (by rw [hW0]; simp)).trans ?_⟩ <;> (rw [hW0]; simp [go_sem])
  have HI : Hid (∀ V, Below w.heap.size w V → DIn V D) := fun V hV => h.below hV
  have HB0 : Hid (Below w.heap.size w W0) := hb0
  have HD : Hid (DOk D) := hd
  have hws : w.heap.size < W0.heap.size := by rw [hW0]; simp
  have hws2 : W0.heap.size ≤ w.heap.size + 1 := by rw [hW0]; simp
  have hmk := makeB D.rn (by omega)
  obtain ⟨p0, p1, p2⟩ := HX.out _ (Below.refl _ _)
  rw [dv, hra, haa]
  rw [hra, haa] at hW0
  rw [hW0] at p0 p1 p2
  have HRW : Hid ((W0.alloc (.cells (madeCells #[.bool false] D.rn) 4)).rowIs (w.heap.size + 1) 4 D.rn (fun j => .bool ((fun _ => false) j))) := by have := made_B W0 D.rn; rw [show W0.heap.size = w.heap.size + 1 by rw [hW0]; simp] at this; exact this
  have HBW : Hid (Below W0.heap.size W0 (W0.alloc (.cells (madeCells #[.bool false] D.rn) 4))) := (Below.refl _ _).alloc (Nat.le_refl _) _
  have HAN : Hid (D.an = D.rn) := han
  clear h hm hd hb0 han hra haa
  go_enter Tryd.func26, Tryd.ntmps26
  go_wp2_with fail
  rw [← hW0] at p0 p1 p2 ⊢
  clear hmk hW0
  go_loopw [4] (fun jv wr => ∃ (j : Nat) (F : Nat → Bool), jv = .int .i64 j ∧ j ≤ D.rn + 1 ∧ wr.rowIs (w.heap.size + 1) 4 D.rn (fun i => .bool (F i)) ∧ Hid (Pass D j 0 0 F) ∧ Hid (Below W0.heap.size W0 wr)) (fun jv _ => D.rn + 1 - (intOf jv).toNat)
  case atStart => exact ⟨0, _, rfl, by omega, HRW.out, Pass.start D, HBW.out⟩
  case round =>
    clear p0 p1 p2
    obtain ⟨j, F, rfl, hj, hrow, HP, HB⟩ := hrel
    obtain ⟨p0, p1, p2⟩ := HX.out wr HB.out
    by_cases hjl : j ≤ D.rn
    · have hjz : (j : Int) ≤ (D.rn : Int) := by omega
      go_wp2_with fail
      go_loopw [5] (fun sv ws => ∃ (s : Nat) (F : Nat → Bool), sv = .int .i64 s ∧ s ≤ D.rn ∧ ws.rowIs (w.heap.size + 1) 4 D.rn (fun i => .bool (F i)) ∧ Hid (Pass D j s 0 F) ∧ Hid (Below W0.heap.size W0 ws)) (fun sv _ => D.rn - (intOf sv).toNat)
      case atStart => exact ⟨0, F, rfl, by omega, hrow, HP.out, HB.out⟩
      case round =>
        clear p0 p1 p2
        rename World => ws
        obtain ⟨s, F, rfl, hs, hrow, HP, HB⟩ := hrel
        obtain ⟨p0, p1, p2⟩ := HX.out ws HB.out
        by_cases hsl : s < D.rn
        · have hsz : (s : Int) < (D.rn : Int) := by omega
          have hsa : (s : Int) < (D.an : Int) := by have := HAN.out; omega
          have hdi := HI.out ws (HB0.out.trans (HB.out.mono HB0.out.size))
          have a1 := hdi.a s (by have := HAN.out; omega)
          have e1 := hrow.cell hsl
          have f1 := hrow.frozen s
          have HNX : Hid (∀ x : Bool, x = (F s || decide (0 ≤ D.A s)) → (ws.setCell ⟨w.heap.size + 1, s, none⟩ (.bool x)).rowIs (w.heap.size + 1) 4 D.rn (fun i => .bool (setB F s x i)) ∧ Pass D j s 1 (setB F s x) ∧ Below W0.heap.size W0 (ws.setCell ⟨w.heap.size + 1, s, none⟩ (.bool x))) := fun x hx => ⟨row_setB hrow s x, hx ▸ HP.out.first hsl, HB.out.setCell (by simp; omega) _⟩
          clear hrow hdi
          have hcase : F s = true ∨ (F s = false ∧ decide (0 ≤ D.A s) = true) ∨ (F s = false ∧ decide (0 ≤ D.A s) = false) := by
            cases F s <;> cases decide (0 ≤ D.A s) <;> simp
          rcases hcase with hF | ⟨hF, had⟩ | ⟨hF, had⟩
          all_goals rw [hF] at e1
          all_goals first
            | have HNH : Hid ((ws.setCell ⟨w.heap.size + 1, s, none⟩ (.bool true)).rowIs (w.heap.size + 1) 4 D.rn (fun i => .bool (setB F s true i)) ∧ Pass D j s 1 (setB F s true) ∧ Below W0.heap.size W0 (ws.setCell ⟨w.heap.size + 1, s, none⟩ (.bool true))) := HNX.out true (by first | (rw [hF]; rfl) | (rw [hF, had]; rfl))
            | have HNH : Hid ((ws.setCell ⟨w.heap.size + 1, s, none⟩ (.bool false)).rowIs (w.heap.size + 1) 4 D.rn (fun i => .bool (setB F s false i)) ∧ Pass D j s 1 (setB F s false) ∧ Below W0.heap.size W0 (ws.setCell ⟨w.heap.size + 1, s, none⟩ (.bool false))) := HNX.out false (by rw [hF, had]; rfl)
          all_goals clear HNX hF
          all_goals go_wp2_with fail
          all_goals try clear had
          all_goals first
            | (obtain ⟨wc, hwc⟩ : ∃ wc, ws.setCell ⟨w.heap.size + 1, s, none⟩ (.bool true) = wc := ⟨_, rfl⟩
               rw [hwc] at HNH ⊢)
            | (obtain ⟨wc, hwc⟩ : ∃ wc, ws.setCell ⟨w.heap.size + 1, s, none⟩ (.bool false) = wc := ⟨_, rfl⟩
               rw [hwc] at HNH ⊢)
          all_goals
            clear hwc
            obtain ⟨F1, hrow, HP1, HB1⟩ : ∃ F1 : Nat → Bool, wc.rowIs (w.heap.size + 1) 4 D.rn (fun i => .bool (F1 i)) ∧ Hid (Pass D j s 1 F1) ∧ Hid (Below W0.heap.size W0 wc) := ⟨_, HNH.out.1, HNH.out.2.1, HNH.out.2.2⟩
            clear HNH
            clear p0 p1 p2 a1 e1 f1
            go_loopw [6] (fun kv wk => ∃ (k : Nat) (F : Nat → Bool), kv = .int .i64 k ∧ k ≤ D.pn ∧ wk.rowIs (w.heap.size + 1) 4 D.rn (fun i => .bool (F i)) ∧ Hid (Pass D j s (k + 1) F) ∧ Hid (Below W0.heap.size W0 wk)) (fun kv _ => D.pn - (intOf kv).toNat)
            case atStart => exact ⟨0, F1, rfl, by omega, hrow, HP1.out, HB1.out⟩
            case round =>
              rename World => wk
              clear hrow
              obtain ⟨k, F, rfl, hk, hrow, HP, HB⟩ := hrel
              obtain ⟨p0, p1, p2⟩ := HX.out wk HB.out
              obtain ⟨g1, g2, g3⟩ := (HI.out wk (HB0.out.trans (HB.out.mono HB0.out.size))).r s hsl
              have hl : D.R.n s = D.pn := (HD.out.at hsl).1
              rw [hl] at g1 g2
              by_cases hkl : k < D.pn
              · rw [g2 (by omega)] at g1
                have hkz : (k : Int) < (D.pn : Int) := by omega
                have HKL : Hid (k < D.pn) := hkl
                have g4 := g3 k (by omega)
                have e1 := hrow.cell hsl
                have f1 := hrow.frozen s
                have HNX : Hid (∀ x : Bool, x = (F s || (decide (0 ≤ D.R.G s k) && F (D.R.G s k).toNat)) → (wk.setCell ⟨w.heap.size + 1, s, none⟩ (.bool x)).rowIs (w.heap.size + 1) 4 D.rn (fun i => .bool (setB F s x i)) ∧ Pass D j s (k + 2) (setB F s x) ∧ Below W0.heap.size W0 (wk.setCell ⟨w.heap.size + 1, s, none⟩ (.bool x))) := fun x hx => ⟨row_setB hrow s x, hx ▸ HP.out.next HD.out hsl hkl, HB.out.setCell (by simp; omega) _⟩
                by_cases h0 : 0 ≤ D.R.G s k
                · have htl := to_lt HD.out hsl hkl h0
                  obtain ⟨q, hq⟩ : ∃ q : Nat, D.R.G s k = (q : Int) := ⟨(D.R.G s k).toNat, by omega⟩
                  rw [hq] at g4 HNX htl
                  simp only [Int.toNat_natCast] at HNX htl
                  have e2 := hrow.cell (i := q) htl
                  have hqz : (q : Int) < (D.rn : Int) := by omega
                  have hq0 : decide ((0 : Int) ≤ (q : Int)) = true := by simp
                  have hq1 : (0 : Int) ≤ (q : Int) := by omega
                  clear hrow g2 g3 h0 hq
                  cases hF : F s
                  · rw [hF] at e1
                    cases hG : F q
                    · have HNH : Hid ((wk.setCell ⟨w.heap.size + 1, s, none⟩ (.bool false)).rowIs (w.heap.size + 1) 4 D.rn (fun i => .bool (setB F s false i)) ∧ Pass D j s (k + 2) (setB F s false) ∧ Below W0.heap.size W0 (wk.setCell ⟨w.heap.size + 1, s, none⟩ (.bool false))) := HNX.out false (by rw [hF, hG]; simp)
                      rw [hG] at e2
                      clear HNX hF hG
                      go_wp2_with fail
                      go_roundw
                      case rel => exact ⟨k + 1, _, by go_num, HKL.out, HNH.out.1, HNH.out.2.1, HNH.out.2.2⟩
                      case measure => (have := HKL.out; simp [intOf]; omega)
                    · have HNH : Hid ((wk.setCell ⟨w.heap.size + 1, s, none⟩ (.bool true)).rowIs (w.heap.size + 1) 4 D.rn (fun i => .bool (setB F s true i)) ∧ Pass D j s (k + 2) (setB F s true) ∧ Below W0.heap.size W0 (wk.setCell ⟨w.heap.size + 1, s, none⟩ (.bool true))) := HNX.out true (by rw [hF, hG]; simp)
                      rw [hG] at e2
                      clear HNX hF hG
                      go_wp2_with fail
                      go_roundw
                      case rel => exact ⟨k + 1, _, by go_num, HKL.out, HNH.out.1, HNH.out.2.1, HNH.out.2.2⟩
                      case measure => (have := HKL.out; simp [intOf]; omega)
                  · rw [hF] at e1
                    have HNH : Hid ((wk.setCell ⟨w.heap.size + 1, s, none⟩ (.bool true)).rowIs (w.heap.size + 1) 4 D.rn (fun i => .bool (setB F s true i)) ∧ Pass D j s (k + 2) (setB F s true) ∧ Below W0.heap.size W0 (wk.setCell ⟨w.heap.size + 1, s, none⟩ (.bool true))) := HNX.out true (by rw [hF]; simp)
                    clear HNX hF
                    go_wp2_with fail
                    go_roundw
                    case rel => exact ⟨k + 1, _, by go_num, HKL.out, HNH.out.1, HNH.out.2.1, HNH.out.2.2⟩
                    case measure => (have := HKL.out; simp [intOf]; omega)
                · have hd0 : decide (0 ≤ D.R.G s k) = false := by simpa using h0
                  clear hrow g2 g3
                  cases hF : F s
                  · rw [hF] at e1
                    have HNH : Hid ((wk.setCell ⟨w.heap.size + 1, s, none⟩ (.bool false)).rowIs (w.heap.size + 1) 4 D.rn (fun i => .bool (setB F s false i)) ∧ Pass D j s (k + 2) (setB F s false) ∧ Below W0.heap.size W0 (wk.setCell ⟨w.heap.size + 1, s, none⟩ (.bool false))) := HNX.out false (by rw [hF, hd0]; rfl)
                    clear HNX hF h0
                    go_wp2_with fail
                    go_roundw
                    case rel => exact ⟨k + 1, _, by go_num, HKL.out, HNH.out.1, HNH.out.2.1, HNH.out.2.2⟩
                    case measure => (have := HKL.out; simp [intOf]; omega)
                  · rw [hF] at e1
                    have HNH : Hid ((wk.setCell ⟨w.heap.size + 1, s, none⟩ (.bool true)).rowIs (w.heap.size + 1) 4 D.rn (fun i => .bool (setB F s true i)) ∧ Pass D j s (k + 2) (setB F s true) ∧ Below W0.heap.size W0 (wk.setCell ⟨w.heap.size + 1, s, none⟩ (.bool true))) := HNX.out true (by rw [hF]; simp)
                    clear HNX hF h0
                    go_wp2_with fail
                    go_roundw
                    case rel => exact ⟨k + 1, _, by go_num, HKL.out, HNH.out.1, HNH.out.2.1, HNH.out.2.2⟩
                    case measure => (have := HKL.out; simp [intOf]; omega)
              · have hkz : ¬ (k : Int) < (D.pn : Int) := by omega
                have HPN : Hid (Pass D j (s + 1) 0 F) := ((show k = D.pn by omega) ▸ HP.out).done hsl
                clear g2 g3
                go_wp2_with fail
                go_roundw
                case rel => exact ⟨s + 1, F, by go_num, by omega, hrow, HPN.out, HB.out⟩
                case measure => simp [intOf]; omega
        · have hsz : ¬ (s : Int) < (D.rn : Int) := by omega
          have HPN : Hid (Pass D (j + 1) 0 0 F) := ((show s = D.rn by omega) ▸ HP.out).round
          go_wp2_with fail
          go_roundw
          case rel => exact ⟨j + 1, F, by go_num, by omega, hrow, HPN.out, HB.out⟩
          case measure => simp [intOf]; omega
    · have hjz : ¬ (j : Int) ≤ (D.rn : Int) := by omega
      have HL : Hid (LivesF D D.rn F) := ((show j = D.rn + 1 by omega) ▸ HP.out).lives HD.out
      go_wp2_with fail
      go_ret
      exact .mk' (fun _ => ⟨rfl, by omega, hrow⟩) HL.out (HB0.out.trans (HB.out.mono HB0.out.size))
end Go.Proofs.YtbfpnndcbaffoaaDoor

