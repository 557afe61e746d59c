/- the walks of l2Many and of the model's RexOk -/
import Derived.Test.YtplpdikkkbiacaaGreatDoorTf
namespace Go.Proofs.YtplpdikkkbiacaaGreatDoor
open Go.RowKit
set_option linter.unusedVariables false
set_option linter.unusedSimpArgs false

/-- how many parts it has, those that are not deeper than so -/
def manyN : Nat → Sh → Nat
  | 0, _ => 1
  | d + 1, .node _ _ _ _ m kids => 1 + sumN (fun i => if hi : i < m then manyN d (kids ⟨i, hi⟩) else 0) m
theorem manyN_mk (d : Nat) (kind : Int) (n : Nat) (L H : Nat → Int) (m : Nat) (K : Nat → Sh) : manyN (d + 1) (.mk kind n L H m K) = 1 + sumN (fun i => manyN d (K i)) m := by
  simp only [Sh.mk, manyN]
  rw [sumN_congr (g := fun i => manyN d (K i)) (fun i hi => by rw [dif_pos hi])]

theorem sumN_mono {f g : Nat → Nat} : ∀ {m : Nat}, (∀ i, i < m → f i ≤ g i) → sumN f m ≤ sumN g m
  | 0, _ => Nat.le_refl _
  | m + 1, h => by
    have h1 := sumN_mono (f := f) (g := g) (m := m) (fun i hi => h i (by omega))
    have h2 := h m (by omega)
    simp only [sumN]; omega
theorem sumN_succ (f : Nat → Nat) : ∀ m, sumN (fun i => f i + 1) m = sumN f m + m
  | 0 => rfl
  | m + 1 => by simp only [sumN, sumN_succ f m]; omega
theorem manyN_le : ∀ (d : Nat) (S : Sh), manyN d S ≤ cnt S + 1
  | 0, S => by simp [manyN]
  | d + 1, S => by
    obtain ⟨kind, n, L, H, m, K, rfl, _⟩ := Sh.cases S
    have h := sumN_mono (f := fun i => manyN d (K i)) (g := fun i => cnt (K i) + 1) (m := m) (fun i _ => manyN_le d (K i))
    rw [sumN_succ (fun i => cnt (K i))] at h
    simp only [manyN_mk, cnt_mk]; omega

set_option maxRecDepth 100000 in
set_option maxHeartbeats 2000000 in
theorem l2Many_any (d : Nat) : ∀ (S : Sh) (M : Mx) (deep : Int) (w : World), In AnyB w S M → cnt S ≤ 1048576 → Hid (deep = d) → d ≤ 100 →
    Calls Tryz.prog 42 #[vx S M, .int .i64 deep] w fun e w' => e = .returned (.int .i64 (manyN d S)) ∧ Below w.heap.size w w' := by
  induction d with
  | zero =>
    intro S M deep w h _ hd _
    have hlt : ¬ 0 < deep := by have := hd.out; omega
    obtain ⟨kind, n, L, H, m, K, rfl, _⟩ := Sh.cases S
    obtain ⟨sv, kv, M, rfl⟩ := Mx.cases M
    · skip
      obtain ⟨a, b, off, cap, a', b', off', cap', e1, hn, hs, hl, e2, hm, hl', hk⟩ := h
      obtain rfl : sv = _ := e1
      obtain rfl : kv = _ := e2
      simp only [Mx.mk_kid] at hk
      simp only [vx, Sh.mk_kind, Mx.mk_sv, Mx.mk_kv]
      clear hm hn hs hk
      by_cases hm0 : 0 < m
      · have hmz : (0 : Int) < (m : Int) := by omega
        go_enter Tryz.func42, Tryz.ntmps42
        go_wp2_with fail
        go_loopw [5, 6] (fun t i wr => t = .int .i64 1 ∧ i = .int .i64 0 ∧ wr.cell? ⟨w.heap.size, 2, none⟩ = some (.slice a' m cap') ∧ Below w.heap.size w wr) (fun _ _ _ => 0)
        case atStart => exact ⟨rfl, rfl, by simp [go_sem], (Below.refl _ _).alloc (Nat.le_refl _) _⟩
        case round =>
          obtain ⟨rfl, rfl, hbox, hB⟩ := hrel
          go_wp2_with fail
          go_ret
          exact ⟨rfl, hB⟩
      · obtain rfl : m = 0 := by omega
        go_enter Tryz.func42, Tryz.ntmps42
        go_wp2_with fail
        go_loopw [5, 6] (fun t i wr => t = .int .i64 1 ∧ i = .int .i64 0 ∧ wr.cell? ⟨w.heap.size, 2, none⟩ = some (.slice a' 0 cap') ∧ Below w.heap.size w wr) (fun _ _ _ => 0)
        case atStart => exact ⟨rfl, rfl, by simp [go_sem], (Below.refl _ _).alloc (Nat.le_refl _) _⟩
        case round =>
          obtain ⟨rfl, rfl, hbox, hB⟩ := hrel
          go_wp2_with fail
          go_ret
          exact ⟨rfl, hB⟩
  | succ d ih =>
    intro S M deep w h hcnt hd hd100
    have hge : 0 < deep := by have := hd.out; omega
    have hle : deep ≤ 101 := by have := hd.out; omega
    obtain ⟨kind, n, L, H, m, K, rfl, _⟩ := Sh.cases S
    obtain ⟨sv, kv, M, rfl⟩ := Mx.cases M
    · skip
      have hbig := manyN_le (d + 1) (.mk kind n L H m K)
      obtain ⟨a, b, off, cap, a', b', off', cap', e1, hn, hs, hl, e2, hm, hl', hk⟩ := h
      obtain rfl : sv = _ := e1
      obtain rfl : kv = _ := e2
      simp only [Mx.mk_kid] at hk
      simp only [vx, Sh.mk_kind, Mx.mk_sv, Mx.mk_kv]
      have HIH : Hid (∀ i, i < m → ∀ w1, Below w.heap.size w w1 → Calls Tryz.prog 42 #[vx (K i) (M i), .int .i64 (deep - 1)] w1 fun e w' => e = .returned (.int .i64 (manyN d (K i))) ∧ Below w1.heap.size w1 w') := fun i hi w1 hb1 =>
        ih (K i) (M i) (deep - 1) w1 ((hk i hi).2.below hb1) (by simp only [cnt_mk] at hcnt; have := sumN_at (f := fun i => cnt (K i)) hi; omega) (by have := hd.out; rw [Hid]; omega) (by omega)
      have HK : Hid (∀ i, i < m → Kid w b' (off' + i * 3) (K i) (M i)) := fun i hi => (hk i hi).1
      have HM : Hid (∀ k, k ≤ m → sumN (fun i => manyN d (K i)) k ≤ 1048577) := fun k hk => by
        have := sumN_le (f := fun i => manyN d (K i)) hk
        simp only [manyN_mk] at hbig; omega
      clear ih hk hcnt hbig hs
      go_enter Tryz.func42, Tryz.ntmps42
      go_wp2_with fail
      go_loopw [5, 6] (fun t i wr => ∃ (k s : Nat), k ≤ m ∧ i = .int .i64 k ∧ t = .int .i64 s ∧ s ≤ 1048578 ∧ Hid (s = 1 + sumN (fun i => manyN d (K i)) k) ∧ wr.cell? ⟨w.heap.size, 2, none⟩ = some (.slice a' m cap') ∧ Below w.heap.size w wr) (fun _ i _ => m - (intOf i).toNat)
      case atStart => exact ⟨0, 1, Nat.zero_le _, rfl, rfl, by omega, by simp [Hid, sumN], by simp [go_sem], (Below.refl _ _).alloc (Nat.le_refl _) _⟩
      case round =>
        obtain ⟨k, s, hk', rfl, rfl, hs1, HS, hbox, hB⟩ := hrel
        by_cases hlt : k < m
        · obtain rfl := (hm (by omega)).1
          have hltz : (k : Int) < (m : Int) := by omega
          obtain ⟨c1, c2, c3⟩ := HK.out k hlt
          have d1 : wr.cell? ⟨b', off' + k * 3, none⟩ = _ := (hB.cell (p := ⟨b', _, none⟩) (World.block_lt_of_cell? _ _ c1)).trans c1
          have d2 : wr.cell? ⟨b', off' + k * 3 + 1, none⟩ = _ := (hB.cell (p := ⟨b', _, none⟩) (World.block_lt_of_cell? _ _ c2)).trans c2
          have d3 : wr.cell? ⟨b', off' + k * 3 + 2, none⟩ = _ := (hB.cell (p := ⟨b', _, none⟩) (World.block_lt_of_cell? _ _ c3)).trans c3
          obtain ⟨x, HX⟩ : ∃ x, Hid (manyN d (K k) = x) := ⟨_, rfl⟩
          have HC : Hid (Calls Tryz.prog 42 #[vx (K k) (M k), .int .i64 (deep - 1)] wr fun e w' => e = .returned (.int .i64 (manyN d (K k))) ∧ Below wr.heap.size wr w') := HIH.out k hlt wr hB
          have hx1 := HM.out (k + 1) hlt
          simp only [sumN] at hx1
          rw [HX.out] at HC hx1
          clear c1 c2 c3
          have hx2 : x ≤ 1048577 := by omega
          have HS1 : Hid (s + x = 1 + sumN (fun i => manyN d (K i)) (k + 1) ∧ s + x ≤ 1048578) := by
            have h1 := HS.out; have h2 := HX.out
            refine ⟨?_, ?_⟩
            · simp only [sumN, h2]; omega
            · omega
          clear hx1
          go_wp2_with fail
          refine HC.out.mono ?_
          rintro e w1 ⟨rfl, hb1⟩
          go_wp2_with fail
          go_roundw
          case rel =>
            exact ⟨k + 1, s + x, by omega, by go_num, by go_num, HS1.out.2, HS1.out.1, (hb1.cell (p := ⟨w.heap.size, 2, none⟩) (World.block_lt_of_cell? _ _ hbox)).trans hbox, hB.trans (hb1.mono hB.size)⟩
          case measure => simp [intOf]; omega
        · go_wp2_with fail
          go_ret
          obtain rfl : k = m := by omega
          exact ⟨ret_int (by rw [HS.out, manyN_mk]), hB⟩

/-- it is a Rex as it must be -/
def okR (S : Sh) : Bool := formB 8 S && decide (manyN 8 S ≤ 24)

set_option maxHeartbeats 1000000 in
theorem specRexOk_any (S : Sh) (M : Mx) (w : World) (h : In AnyB w S M) (hcnt : cnt S ≤ 1048576) :
    Calls Tryz.prog 30 #[vx S M] w fun e w' => e = .returned (.bool (okR S)) ∧ Below w.heap.size w w' := by
  have H1 : Hid (∀ w1, Below w.heap.size w w1 → Calls Tryz.prog 41 #[vx S M, .int .i64 8] w1 fun e w' => e = .returned (.bool (formB 8 S)) ∧ Below w1.heap.size w1 w') := fun w1 hb => l2Form_any 8 S M 8 w1 (h.below hb) hcnt rfl (by omega)
  have H2 : Hid (∀ w1, Below w.heap.size w w1 → Calls Tryz.prog 42 #[vx S M, .int .i64 8] w1 fun e w' => e = .returned (.int .i64 (manyN 8 S)) ∧ Below w1.heap.size w1 w') := fun w1 hb => l2Many_any 8 S M 8 w1 (h.below hb) hcnt rfl (by omega)
  have hv : ∃ a n c a' m c', vx S M = .agg #[.int .i64 S.kind, .slice a n c, .slice a' m c'] := by
    obtain ⟨a, n, c, a', m, c', e1, e2⟩ := h.slices
    exact ⟨a, n, c, a', m, c', by rw [vx, e1, e2]⟩
  obtain ⟨a, n, c, a', m, c', hv⟩ := hv
  rw [hv] at H1 H2 ⊢
  clear hv
  have hB0 : Below w.heap.size w (w.alloc (.cells #[.int .i64 S.kind, .slice a n c, .slice a' m c'] 50)) := (Below.refl _ _).alloc (Nat.le_refl _) _
  by_cases hf : formB 8 S = true
  · rw [hf] at H1
    obtain ⟨x, HX⟩ : ∃ x, Hid (manyN 8 S = x) := ⟨_, rfl⟩
    rw [HX.out] at H2
    have HR : Hid (okR S = decide (x ≤ 24)) := by simp [Hid, okR, hf, HX.out]
    clear hf
    go_enter Tryz.func30, Tryz.ntmps30
    go_wp2_with fail
    refine (H1.out _ hB0).mono ?_
    rintro e w1 ⟨rfl, hb1⟩
    obtain ⟨hc1, hf1⟩ := bcell hb1
    have r0 : w1.cell? ⟨w.heap.size, 0, none⟩ = some (.int .i64 S.kind) := by rw [hc1 _ _ (by simp)]; simp [go_sem]
    have r1 : w1.cell? ⟨w.heap.size, 1, none⟩ = some (.slice a n c) := by rw [hc1 _ _ (by simp)]; simp [go_sem]
    have r2 : w1.cell? ⟨w.heap.size, 2, none⟩ = some (.slice a' m c') := by rw [hc1 _ _ (by simp)]; simp [go_sem]
    clear hc1 hf1
    have hB1 := hB0.trans (hb1.mono hB0.size)
    go_wp2_with fail
    refine (H2.out _ hB1).mono ?_
    rintro e w2 ⟨rfl, hb2⟩
    go_wp2_with fail
    go_ret
    exact ⟨ret_bool (by rw [HR.out]; by_cases hx : x ≤ 24 <;> simp [hx]; all_goals omega), hB1.trans (hb2.mono hB1.size)⟩
  · have hf' : formB 8 S = false := Bool.eq_false_iff.2 hf
    rw [hf'] at H1
    have HR : Hid (okR S = false) := by simp [Hid, okR, hf']
    clear hf hf'
    go_enter Tryz.func30, Tryz.ntmps30
    go_wp2_with fail
    refine (H1.out _ hB0).mono ?_
    rintro e w1 ⟨rfl, hb1⟩
    go_wp2_with fail
    go_ret
    exact ⟨ret_bool HR.out.symm, hB0.trans (hb1.mono hB0.size)⟩

end Go.Proofs.YtplpdikkkbiacaaGreatDoor

