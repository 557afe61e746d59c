/- the walks of l2Form -/
import Derived.Test.YtplpdikkkbiacaaGreatDoorTe
namespace Go.Proofs.YtplpdikkkbiacaaGreatDoor
open Go.RowKit
set_option linter.unusedVariables false
set_option linter.unusedSimpArgs false

/-- one part is as it must be, whatever its kids -/
def goodB (kind : Int) (n : Nat) (L H : Nat → Int) (m : Nat) : Bool := (kidsOf kind == (m : Int)) && (kind == 1 || n == 0) && okB n L H
/-- all parts are as they must be, and none lies deeper than so -/
def formB : Nat → Sh → Bool
  | 0, _ => false
  | d + 1, .node kind n L H m kids => goodB kind n L H m && (List.range m).all fun i => if hi : i < m then formB d (kids ⟨i, hi⟩) else true
theorem formB_mk (d : Nat) (kind : Int) (n : Nat) (L H : Nat → Int) (m : Nat) (K : Nat → Sh) : formB (d + 1) (.mk kind n L H m K) = (goodB kind n L H m && (List.range m).all fun i => formB d (K i)) := by
  simp only [Sh.mk, formB]
  congr 1
  rw [Bool.eq_iff_iff]
  simp only [List.all_eq_true, List.mem_range]
  exact ⟨fun h i hi => by have := h i hi; rwa [dif_pos hi] at this, fun h i hi => by rw [dif_pos hi]; exact h i hi⟩

theorem formB_bad {d : Nat} {kind : Int} {n : Nat} {L H : Nat → Int} {m : Nat} {K : Nat → Sh} (h : goodB kind n L H m = false) : formB (d + 1) (.mk kind n L H m K) = false := by simp [formB_mk, h]
theorem formB_kid {d : Nat} {kind : Int} {n : Nat} {L H : Nat → Int} {m : Nat} {K : Nat → Sh} {i : Nat} (hi : i < m) (h : formB d (K i) = false) : formB (d + 1) (.mk kind n L H m K) = false := by
  rw [← Bool.not_eq_true]
  intro e
  simp only [formB_mk, Bool.and_eq_true, List.all_eq_true, List.mem_range] at e
  rw [e.2 i hi] at h
  cases h
theorem formB_all {d : Nat} {kind : Int} {n : Nat} {L H : Nat → Int} {m : Nat} {K : Nat → Sh} (h : goodB kind n L H m = true) (hk : ∀ i, i < m → formB d (K i) = true) : formB (d + 1) (.mk kind n L H m K) = true := by
  simp only [formB_mk, h, Bool.true_and, List.all_eq_true, List.mem_range]
  exact hk

set_option maxRecDepth 100000 in
set_option maxHeartbeats 2000000 in
theorem l2Form_any (d : Nat) : ∀ (S : Sh) (M : Mx) (deep : Int) (w : World), In AnyB w S M → cnt S ≤ 1048576 → Hid (deep = d) → d ≤ 100 →
    Calls Tryz.prog 41 #[vx S M, .int .i64 deep] w fun e w' => e = .returned (.bool (formB d S)) ∧ Below w.heap.size w w' := by
  induction d with
  | zero =>
    intro S M deep w h _ hd _
    have hlt : deep < 1 := by have := hd.out; omega
    obtain ⟨kind, n, L, H, m, K, rfl, _⟩ := Sh.cases S
    obtain ⟨sv, kv, M, rfl⟩ := Mx.cases M
    · skip
      obtain ⟨a, b, off, cap, a', b', off', cap', e1, hn, hs, hl, e2, hm, hl', hk⟩ := h
      obtain rfl : sv = _ := e1
      obtain rfl : kv = _ := e2
      simp only [Mx.mk_kid] at hk
      simp only [vx, Sh.mk_kind, Mx.mk_sv, Mx.mk_kv]
      go_enter Tryz.func41, Tryz.ntmps41
      go_wp2_with fail
      go_quiet (fail)
      go_wp2_with fail
      go_ret
      exact ⟨rfl, below_drewN ((Below.refl _ _).alloc (Nat.le_refl _) _) _⟩
  | succ d ih =>
    intro S M deep w h hcnt hd hd100
    have hge : decide (deep < 1) = false := by have := hd.out; simp; omega
    have hlt0 : ¬ deep < 1 := by have := hd.out; omega
    have hle : deep ≤ 101 := by have := hd.out; omega
    obtain ⟨kind, n, L, H, m, K, rfl, _⟩ := Sh.cases S
    obtain ⟨sv, kv, M, rfl⟩ := Mx.cases M
    · skip
      obtain ⟨a, b, off, cap, a', b', off', cap', e1, hn, hs, hl, e2, hm, hl', hk⟩ := h
      obtain rfl : sv = _ := e1
      obtain rfl : kv = _ := e2
      simp only [Mx.mk_kid] at hk
      simp only [vx, Sh.mk_kind, Mx.mk_sv, Mx.mk_kv]
      simp only [cnt_mk] at hcnt
      have H1 : Hid (∀ w, Calls Tryz.prog 54 #[.int .i64 kind] w fun e w' => e = .returned (.int .i64 (kidsOf kind)) ∧ w' = w) := fun w => l2Kids_any kind w
      by_cases hkm : kidsOf kind = m
      · rw [hkm] at H1
        have hne : ((m : Int) != (m : Int)) = false := by simp
        by_cases hset : kind ≠ 1 ∧ 0 < n
        · have HB : Hid (goodB kind n L H m = false) := by
            have : ¬ (kind = 1 ∨ n = 0) := by omega
            simp only [Hid, goodB]
            have e1 : (kind == 1 || n == 0) = false := by simpa using ⟨hset.1, by omega⟩
            simp [e1]
          have hk1 : (kind != 1) = true := by simpa using hset.1
          have hk1f : (kind == 1) = false := by simpa using hset.1
          have hn0 : (0 : Int) < (n : Int) := by omega
          have hn1 : 0 < n := by omega
          have hn2 : ¬ n = 0 := by omega
          clear hkm hset
          go_enter Tryz.func41, Tryz.ntmps41
          go_wp2_with fail
          go_quiet ((go_at_call 54; exact Calls.quiet_of_same (H1.out _)))
          go_wp2_with fail
          go_ret
          exact ⟨ret_bool (formB_bad HB.out).symm, below_drewN ((Below.refl _ _).alloc (Nat.le_refl _) _) _⟩
        · have H2 : Hid (∀ w1, Below w.heap.size w w1 → Calls Tryz.prog 55 #[.slice a n cap] w1 fun e w' => e = .returned (.bool (okB n L H)) ∧ ∃ q, w' = w1.drewN q) := fun w1 hb1 => specSetOk_q a b off cap n L H w1 (fun h => (hn h).1) (hs.below hb1) (by omega)
          by_cases hk1 : kind = 1
          · have hk1' : (kind != 1) = false := by simpa using hk1
            have HK1 : Hid (kind = 1) := hk1
            clear hk1
            by_cases hok : okB n L H = true
            · rw [hok] at H2
              have HG : Hid (goodB kind n L H m = true) := by
                simp only [Hid, goodB, hkm, hok, beq_self_eq_true, Bool.true_and, Bool.and_true, Bool.or_eq_true, beq_iff_eq]
                (have := HK1.out; omega)
              have HIH : Hid (∀ i, i < m → ∀ w1, Below w.heap.size w w1 → Calls Tryz.prog 41 #[vx (K i) (M i), .int .i64 (deep - 1)] w1 fun e w' => e = .returned (.bool (formB d (K i))) ∧ Below w1.heap.size w1 w') := fun i hi w1 hb1 =>
                ih (K i) (M i) (deep - 1) w1 ((hk i hi).2.below hb1) (by have := sumN_at (f := fun i => cnt (K i)) hi; omega) (by have := hd.out; rw [Hid]; omega) (by omega)
              have HK : Hid (∀ i, i < m → Kid w b' (off' + i * 3) (K i) (M i)) := fun i hi => (hk i hi).1
              clear hkm hset ih hk hcnt hok hs
              go_enter Tryz.func41, Tryz.ntmps41
              go_wp2_with fail
              go_quiet ((first | (go_at_call 54; exact Calls.quiet_of_same (H1.out _)) | (go_at_call 55; exact Calls.quiet_of (H2.out _ (below_drewN ((Below.refl _ _).alloc (Nat.le_refl _) _) _)))))
              go_wp2_with fail
              go_loopw [5] (fun i wr => ∃ k : Nat, k ≤ m ∧ i = .int .i64 k ∧ Hid (∀ j, j < k → formB d (K j) = true) ∧ wr.cell? ⟨w.heap.size, 2, none⟩ = some (.slice a' m cap') ∧ Below w.heap.size w wr) (fun i _ => m - (intOf i).toNat)
              case atStart => exact ⟨0, Nat.zero_le _, rfl, fun j hj => absurd hj (Nat.not_lt_zero _), by simp [go_sem], below_drewN ((Below.refl _ _).alloc (Nat.le_refl _) _) _⟩
              case round =>
                obtain ⟨k, hk', rfl, HA, hbox, hB⟩ := hrel
                by_cases hlt : k < m
                · obtain rfl := (hm (by omega)).1
                  have hltz : (k : Int) < (m : Int) := by omega
                  obtain ⟨c1, c2, c3⟩ := HK.out k hlt
                  have d1 : wr.cell? ⟨b', off' + k * 3, none⟩ = _ := (hB.cell (p := ⟨b', _, none⟩) (World.block_lt_of_cell? _ _ c1)).trans c1
                  have d2 : wr.cell? ⟨b', off' + k * 3 + 1, none⟩ = _ := (hB.cell (p := ⟨b', _, none⟩) (World.block_lt_of_cell? _ _ c2)).trans c2
                  have d3 : wr.cell? ⟨b', off' + k * 3 + 2, none⟩ = _ := (hB.cell (p := ⟨b', _, none⟩) (World.block_lt_of_cell? _ _ c3)).trans c3
                  have HC : Hid (Calls Tryz.prog 41 #[vx (K k) (M k), .int .i64 (deep - 1)] wr fun e w' => e = .returned (.bool (formB d (K k))) ∧ Below wr.heap.size wr w') := HIH.out k hlt wr hB
                  clear c1 c2 c3
                  by_cases hf : formB d (K k) = true
                  · rw [hf] at HC
                    have HF : Hid (formB d (K k) = true) := hf
                    clear hf
                    go_wp2_with fail
                    refine HC.out.mono ?_
                    rintro e w1 ⟨rfl, hb1⟩
                    go_wp2_with fail
                    go_roundw
                    case rel =>
                      refine ⟨k + 1, by omega, by go_num, fun j hj => ?_, (hb1.cell (p := ⟨w.heap.size, 2, none⟩) (World.block_lt_of_cell? _ _ hbox)).trans hbox, hB.trans (hb1.mono hB.size)⟩
                      by_cases e : j = k
                      · subst e; exact HF.out
                      · exact HA.out j (by omega)
                    case measure => simp [intOf]; omega
                  · have hf' : formB d (K k) = false := Bool.eq_false_iff.2 hf
                    rw [hf'] at HC
                    have HF : Hid (formB d (K k) = false) := hf'
                    clear hf hf'
                    go_wp2_with fail
                    refine HC.out.mono ?_
                    rintro e w1 ⟨rfl, hb1⟩
                    go_wp2_with fail
                    go_ret
                    exact ⟨ret_bool (formB_kid hlt HF.out).symm, hB.trans (hb1.mono hB.size)⟩
                · go_wp2_with fail
                  go_ret
                  obtain rfl : k = m := by omega
                  exact ⟨ret_bool (formB_all HG.out HA.out).symm, hB⟩
            · have hok' : okB n L H = false := Bool.eq_false_iff.2 hok
              rw [hok'] at H2
              have HB : Hid (goodB kind n L H m = false) := by simp [Hid, goodB, hok']
              clear hkm hset hok hok'
              go_enter Tryz.func41, Tryz.ntmps41
              go_wp2_with fail
              go_quiet ((first | (go_at_call 54; exact Calls.quiet_of_same (H1.out _)) | (go_at_call 55; exact Calls.quiet_of (H2.out _ (below_drewN ((Below.refl _ _).alloc (Nat.le_refl _) _) _)))))
              go_wp2_with fail
              go_ret
              exact ⟨ret_bool (formB_bad HB.out).symm, below_drewN ((Below.refl _ _).alloc (Nat.le_refl _) _) _⟩
          · have hk1' : (kind != 1) = true := by simpa using hk1
            have hk1f : (kind == 1) = false := by simpa using hk1
            obtain rfl : n = 0 := by omega
            by_cases hok : okB 0 L H = true
            · rw [hok] at H2
              have HG : Hid (goodB kind 0 L H m = true) := by
                simp [Hid, goodB, hkm, hok]
              have HIH : Hid (∀ i, i < m → ∀ w1, Below w.heap.size w w1 → Calls Tryz.prog 41 #[vx (K i) (M i), .int .i64 (deep - 1)] w1 fun e w' => e = .returned (.bool (formB d (K i))) ∧ Below w1.heap.size w1 w') := fun i hi w1 hb1 =>
                ih (K i) (M i) (deep - 1) w1 ((hk i hi).2.below hb1) (by have := sumN_at (f := fun i => cnt (K i)) hi; omega) (by have := hd.out; rw [Hid]; omega) (by omega)
              have HK : Hid (∀ i, i < m → Kid w b' (off' + i * 3) (K i) (M i)) := fun i hi => (hk i hi).1
              clear hkm hset ih hk hcnt hok hs
              go_enter Tryz.func41, Tryz.ntmps41
              go_wp2_with fail
              go_quiet ((first | (go_at_call 54; exact Calls.quiet_of_same (H1.out _)) | (go_at_call 55; exact Calls.quiet_of (H2.out _ (below_drewN ((Below.refl _ _).alloc (Nat.le_refl _) _) _)))))
              go_wp2_with fail
              go_loopw [5] (fun i wr => ∃ k : Nat, k ≤ m ∧ i = .int .i64 k ∧ Hid (∀ j, j < k → formB d (K j) = true) ∧ wr.cell? ⟨w.heap.size, 2, none⟩ = some (.slice a' m cap') ∧ Below w.heap.size w wr) (fun i _ => m - (intOf i).toNat)
              case atStart => exact ⟨0, Nat.zero_le _, rfl, fun j hj => absurd hj (Nat.not_lt_zero _), by simp [go_sem], below_drewN ((Below.refl _ _).alloc (Nat.le_refl _) _) _⟩
              case round =>
                obtain ⟨k, hk', rfl, HA, hbox, hB⟩ := hrel
                by_cases hlt : k < m
                · obtain rfl := (hm (by omega)).1
                  have hltz : (k : Int) < (m : Int) := by omega
                  obtain ⟨c1, c2, c3⟩ := HK.out k hlt
                  have d1 : wr.cell? ⟨b', off' + k * 3, none⟩ = _ := (hB.cell (p := ⟨b', _, none⟩) (World.block_lt_of_cell? _ _ c1)).trans c1
                  have d2 : wr.cell? ⟨b', off' + k * 3 + 1, none⟩ = _ := (hB.cell (p := ⟨b', _, none⟩) (World.block_lt_of_cell? _ _ c2)).trans c2
                  have d3 : wr.cell? ⟨b', off' + k * 3 + 2, none⟩ = _ := (hB.cell (p := ⟨b', _, none⟩) (World.block_lt_of_cell? _ _ c3)).trans c3
                  have HC : Hid (Calls Tryz.prog 41 #[vx (K k) (M k), .int .i64 (deep - 1)] wr fun e w' => e = .returned (.bool (formB d (K k))) ∧ Below wr.heap.size wr w') := HIH.out k hlt wr hB
                  clear c1 c2 c3
                  by_cases hf : formB d (K k) = true
                  · rw [hf] at HC
                    have HF : Hid (formB d (K k) = true) := hf
                    clear hf
                    go_wp2_with fail
                    refine HC.out.mono ?_
                    rintro e w1 ⟨rfl, hb1⟩
                    go_wp2_with fail
                    go_roundw
                    case rel =>
                      refine ⟨k + 1, by omega, by go_num, fun j hj => ?_, (hb1.cell (p := ⟨w.heap.size, 2, none⟩) (World.block_lt_of_cell? _ _ hbox)).trans hbox, hB.trans (hb1.mono hB.size)⟩
                      by_cases e : j = k
                      · subst e; exact HF.out
                      · exact HA.out j (by omega)
                    case measure => simp [intOf]; omega
                  · have hf' : formB d (K k) = false := Bool.eq_false_iff.2 hf
                    rw [hf'] at HC
                    have HF : Hid (formB d (K k) = false) := hf'
                    clear hf hf'
                    go_wp2_with fail
                    refine HC.out.mono ?_
                    rintro e w1 ⟨rfl, hb1⟩
                    go_wp2_with fail
                    go_ret
                    exact ⟨ret_bool (formB_kid hlt HF.out).symm, hB.trans (hb1.mono hB.size)⟩
                · go_wp2_with fail
                  go_ret
                  obtain rfl : k = m := by omega
                  exact ⟨ret_bool (formB_all HG.out HA.out).symm, hB⟩
            · have hok' : okB 0 L H = false := Bool.eq_false_iff.2 hok
              rw [hok'] at H2
              have HB : Hid (goodB kind 0 L H m = false) := by simp [Hid, goodB, hok']
              clear hkm hset hok hok'
              go_enter Tryz.func41, Tryz.ntmps41
              go_wp2_with fail
              go_quiet ((first | (go_at_call 54; exact Calls.quiet_of_same (H1.out _)) | (go_at_call 55; exact Calls.quiet_of (H2.out _ (below_drewN ((Below.refl _ _).alloc (Nat.le_refl _) _) _)))))
              go_wp2_with fail
              go_ret
              exact ⟨ret_bool (formB_bad HB.out).symm, below_drewN ((Below.refl _ _).alloc (Nat.le_refl _) _) _⟩
      · have HB : Hid (goodB kind n L H m = false) := by
          have e1 : (kidsOf kind == (m : Int)) = false := by simpa using hkm
          simp [Hid, goodB, e1]
        have hne : (kidsOf kind != (m : Int)) = true := by simpa using hkm
        clear hkm
        go_enter Tryz.func41, Tryz.ntmps41
        go_wp2_with fail
        go_quiet ((go_at_call 54; exact Calls.quiet_of_same (H1.out _)))
        go_wp2_with fail
        go_ret
        exact ⟨ret_bool (formB_bad HB.out).symm, below_drewN ((Below.refl _ _).alloc (Nat.le_refl _) _) _⟩

end Go.Proofs.YtplpdikkkbiacaaGreatDoor

