/- the walks of szSpanSS, szIntS, szIntSS, szDfa -/
import Derived.Test.YtolddecfibdblaaDoorJa
namespace Go.Proofs.YtolddecfibdblaaDoor
open Go.RowKit
set_option linter.unusedVariables false
set_option linter.unusedSimpArgs false

set_option maxHeartbeats 400000 in
theorem szI_any (a : Option Addr) (len cap : Nat) (left : Int) (w : World) (h0 : 0 ≤ left) (h1 : left ≤ 1048576) (hl : len ≤ 9223372036854775807) :
    Calls Tryd.prog 24 #[.slice a len cap, .int .i64 left] w fun e w' => e = .returned (.int .i64 (leftOf left len)) ∧ w' = w := by
  by_cases h : left < len
  · rw [leftOf_neg h]
    have h' : left - (len : Int) < 0 := by omega
    go_enter Tryd.func24, Tryd.ntmps24
    go_wp2
    go_ret
    exact ⟨rfl, rfl⟩
  · rw [leftOf_pos h]
    have h' : ¬ left - (len : Int) < 0 := by omega
    go_enter Tryd.func24, Tryd.ntmps24
    go_wp2
    go_ret
    exact ⟨rfl, rfl⟩

set_option maxHeartbeats 1000000 in
theorem szSS_any (a : Option Addr) (b off cap n : Nat) (N : Nest) (left : Int) (w : World) (hga : 0 < n → a = some ⟨b, off, none⟩) (hc : SS w b off n N) (h0 : 0 ≤ left) (h1 : left ≤ 1048576) (hn : n ≤ 9223372036854775807) (hm : ∀ i, i < n → N.n i ≤ 9223372036854775807) :
    Calls Tryd.prog 22 #[.slice a n cap, .int .i64 left] w fun e w' => e = .returned (.int .i64 (leftOf left (n + tot N.n n))) ∧ w' = w := by
  by_cases hb : left < n
  · have hbz : left - (n : Int) < 0 := by omega
    rw [leftOf_neg (by omega)]
    go_enter Tryd.func22, Tryd.ntmps22
    go_wp2
    go_ret
    exact ⟨rfl, rfl⟩
  · have hbz : ¬ (left - (n : Int) < 0) := by omega
    go_enter Tryd.func22, Tryd.ntmps22
    go_wp2
    go_loop [1, 5] (fun t i => ∃ (k : Nat) (r : Int), k ≤ n ∧ i = .int .i64 k ∧ t = .int .i64 r ∧ 0 ≤ r ∧ r ≤ 1048576 ∧ Hid (r = left - n - tot N.n k)) (fun _ i => n - (intOf i).toNat)
    case atStart => exact ⟨0, left - n, Nat.zero_le _, rfl, rfl, by omega, by omega, by simp [Hid, tot]⟩
    case round =>
      obtain ⟨k, r, hk, rfl, rfl, hr0, hr1, HR⟩ := hrel
      by_cases hlt : k < n
      · obtain rfl := hga (by omega)
        have hltz : (k : Int) < (n : Int) := by omega
        obtain ⟨c1, _, _⟩ := hc k hlt
        go_wp2_with fail
        refine (sz_any (N.a k) (N.n k) (N.cap k) r _ hr0 hr1 (hm k hlt)).mono ?_
        by_cases hl : r < N.n k
        · rw [if_pos hl]
          have HL : Hid (leftOf left (n + tot N.n n) = -1) := by
            have h2 := tot_le N.n (j := k + 1) (k := n) hlt
            have h3 := HR.out
            simp only [tot] at h2
            exact leftOf_neg (by omega)
          rintro e w1 ⟨rfl, rfl⟩
          go_wp2
          go_ret
          exact ⟨ret_int HL.out.symm, rfl⟩
        · rw [if_neg hl]
          have hz : ¬ (r - (N.n k : Int) < 0) := by omega
          rintro e w1 ⟨rfl, rfl⟩
          go_wp2
          go_round
          case rel => exact ⟨k + 1, r - N.n k, by omega, by go_num, rfl, by omega, by omega, by have := HR.out; show r - N.n k = left - n - tot N.n (k + 1); simp only [tot]; omega⟩
          case measure => simp [intOf]; omega
      · have hltz : ¬ ((k : Int) < (n : Int)) := by omega
        obtain rfl : k = n := by omega
        have HL : Hid (leftOf left (k + tot N.n k) = r) := by
          have h3 := HR.out
          rw [Hid, leftOf_pos (by omega)]
          omega
        go_wp2
        go_ret
        exact ⟨ret_int HL.out.symm, rfl⟩

set_option maxHeartbeats 1000000 in
theorem szIS_any (a : Option Addr) (b off cap n : Nat) (N : Nsi) (left : Int) (w : World) (hga : 0 < n → a = some ⟨b, off, none⟩) (hc : IS w b off n N) (h0 : 0 ≤ left) (h1 : left ≤ 1048576) (hn : n ≤ 9223372036854775807) (hm : ∀ i, i < n → N.n i ≤ 9223372036854775807) :
    Calls Tryd.prog 23 #[.slice a n cap, .int .i64 left] w fun e w' => e = .returned (.int .i64 (leftOf left (n + tot N.n n))) ∧ w' = w := by
  by_cases hb : left < n
  · have hbz : left - (n : Int) < 0 := by omega
    rw [leftOf_neg (by omega)]
    go_enter Tryd.func23, Tryd.ntmps23
    go_wp2
    go_ret
    exact ⟨rfl, rfl⟩
  · have hbz : ¬ (left - (n : Int) < 0) := by omega
    go_enter Tryd.func23, Tryd.ntmps23
    go_wp2
    go_loop [1, 5] (fun t i => ∃ (k : Nat) (r : Int), k ≤ n ∧ i = .int .i64 k ∧ t = .int .i64 r ∧ 0 ≤ r ∧ r ≤ 1048576 ∧ Hid (r = left - n - tot N.n k)) (fun _ i => n - (intOf i).toNat)
    case atStart => exact ⟨0, left - n, Nat.zero_le _, rfl, rfl, by omega, by omega, by simp [Hid, tot]⟩
    case round =>
      obtain ⟨k, r, hk, rfl, rfl, hr0, hr1, HR⟩ := hrel
      by_cases hlt : k < n
      · obtain rfl := hga (by omega)
        have hltz : (k : Int) < (n : Int) := by omega
        obtain ⟨c1, _, _⟩ := hc k hlt
        go_wp2_with fail
        refine (szI_any (N.a k) (N.n k) (N.cap k) r _ hr0 hr1 (hm k hlt)).mono ?_
        by_cases hl : r < N.n k
        · rw [leftOf_neg hl]
          have HL : Hid (leftOf left (n + tot N.n n) = -1) := by
            have h2 := tot_le N.n (j := k + 1) (k := n) hlt
            have h3 := HR.out
            simp only [tot] at h2
            exact leftOf_neg (by omega)
          rintro e w1 ⟨rfl, rfl⟩
          go_wp2
          go_ret
          exact ⟨ret_int HL.out.symm, rfl⟩
        · rw [leftOf_pos hl]
          have hz : ¬ (r - (N.n k : Int) < 0) := by omega
          rintro e w1 ⟨rfl, rfl⟩
          go_wp2
          go_round
          case rel => exact ⟨k + 1, r - N.n k, by omega, by go_num, rfl, by omega, by omega, by have := HR.out; show r - N.n k = left - n - tot N.n (k + 1); simp only [tot]; omega⟩
          case measure => simp [intOf]; omega
      · have hltz : ¬ ((k : Int) < (n : Int)) := by omega
        obtain rfl : k = n := by omega
        have HL : Hid (leftOf left (k + tot N.n k) = r) := by
          have h3 := HR.out
          rw [Hid, leftOf_pos (by omega)]
          omega
        go_wp2
        go_ret
        exact ⟨ret_int HL.out.symm, rfl⟩

set_option maxHeartbeats 1000000 in
theorem szDfa_any (D : Dx) (left : Int) (w : World) (h : DIn w D) (hm : DLe D 9223372036854775807) (h0 : 0 ≤ left) (h1 : left ≤ 1048576) :
    Calls Tryd.prog 7 #[dv D, .int .i64 left] w fun e w' => e = .returned (.int .i64 (leftOf left (cntD D))) ∧ Below w.heap.size w w' := by
  obtain ⟨x, hx⟩ : ∃ x : Nat, D.pn + tot D.P.n D.pn = x := ⟨_, rfl⟩
  obtain ⟨y, hy⟩ : ∃ y : Nat, D.rn + tot D.R.n D.rn = y := ⟨_, rfl⟩
  have hcd : cntD D = x + y + D.an := by unfold cntD; rw [hx, hy]
  have H1 : Hid (∀ w1, Below w.heap.size w w1 → Calls Tryd.prog 22 #[.slice D.pa D.pn D.pc, .int .i64 left] w1 fun e w' => e = .returned (.int .i64 (leftOf left x)) ∧ w' = w1) := fun w1 hb => by
    rw [← hx]; exact szSS_any _ _ _ _ _ _ _ _ h.pg (h.p.below hb) h0 h1 hm.p hm.pi
  have H2 : Hid (∀ w1 l, Below w.heap.size w w1 → 0 ≤ l → l ≤ 1048576 → Calls Tryd.prog 23 #[.slice D.ra D.rn D.rc, .int .i64 l] w1 fun e w' => e = .returned (.int .i64 (leftOf l y)) ∧ w' = w1) := fun w1 l hb l0 l1 => by
    rw [← hy]; exact szIS_any _ _ _ _ _ _ _ _ h.rg (h.r.below hb) l0 l1 hm.r hm.ri
  have H3 : Hid (∀ w1 l, 0 ≤ l → l ≤ 1048576 → Calls Tryd.prog 24 #[.slice D.aa D.an D.ac, .int .i64 l] w1 fun e w' => e = .returned (.int .i64 (leftOf l D.an)) ∧ w' = w1) := fun w1 l l0 l1 =>
    szI_any _ _ _ _ _ l0 l1 hm.a
  have hb0 : Below w.heap.size w (w.alloc (.cells #[.slice D.pa D.pn D.pc, .slice D.ra D.rn D.rc, .slice D.aa D.an D.ac] 26)) := (Below.refl _ _).alloc (Nat.le_refl _) _
  rw [dv]
  clear hx hy h hm
  by_cases c1 : left < x
  · rw [leftOf_neg c1] at H1
    have HR : Hid (leftOf left (cntD D) = -1) := leftOf_neg (by rw [hcd]; omega)
    clear c1 hcd
    go_enter Tryd.func7, Tryd.ntmps7
    go_wp2_with fail
    refine (H1.out _ hb0).mono ?_
    rintro e w1 ⟨rfl, hw⟩
    subst w1
    go_wp2_with fail
    go_ret
    exact ⟨ret_int HR.out.symm, hb0⟩
  · rw [leftOf_pos c1] at H1
    have p1 : ¬ (left - (x : Int) < 0) := by omega
    by_cases c2 : left - (x : Int) < y
    · have H2' := H2.out _ _ hb0 (show 0 ≤ left - (x : Int) by omega) (by omega)
      rw [leftOf_neg c2] at H2'
      have HR : Hid (leftOf left (cntD D) = -1) := leftOf_neg (by rw [hcd]; omega)
      clear c1 c2 hcd
      go_enter Tryd.func7, Tryd.ntmps7
      go_wp2_with fail
      refine (H1.out _ hb0).mono ?_
      rintro e w1 ⟨rfl, hw⟩
      subst w1
      go_wp2_with fail
      refine H2'.mono ?_
      rintro e w1 ⟨rfl, hw⟩
      subst w1
      go_wp2_with fail
      go_ret
      exact ⟨ret_int HR.out.symm, hb0⟩
    · have H2' := H2.out _ _ hb0 (show 0 ≤ left - (x : Int) by omega) (by omega)
      rw [leftOf_pos c2] at H2'
      have p2 : ¬ (left - (x : Int) - (y : Int) < 0) := by omega
      by_cases c3 : left - (x : Int) - (y : Int) < D.an
      · have H3' := H3.out (w.alloc (.cells #[.slice D.pa D.pn D.pc, .slice D.ra D.rn D.rc, .slice D.aa D.an D.ac] 26)) _ (show 0 ≤ left - (x : Int) - (y : Int) by omega) (by omega)
        rw [leftOf_neg c3] at H3'
        have HR : Hid (leftOf left (cntD D) = -1) := leftOf_neg (by rw [hcd]; omega)
        clear c1 c2 c3 hcd
        go_enter Tryd.func7, Tryd.ntmps7
        go_wp2_with fail
        refine (H1.out _ hb0).mono ?_
        rintro e w1 ⟨rfl, hw⟩
        subst w1
        go_wp2_with fail
        refine H2'.mono ?_
        rintro e w1 ⟨rfl, hw⟩
        subst w1
        go_wp2_with fail
        refine H3'.mono ?_
        rintro e w1 ⟨rfl, hw⟩
        subst w1
        go_wp2_with fail
        go_ret
        exact ⟨ret_int HR.out.symm, hb0⟩
      · have H3' := H3.out (w.alloc (.cells #[.slice D.pa D.pn D.pc, .slice D.ra D.rn D.rc, .slice D.aa D.an D.ac] 26)) _ (show 0 ≤ left - (x : Int) - (y : Int) by omega) (by omega)
        rw [leftOf_pos c3] at H3'
        have p3 : ¬ (left - (x : Int) - (y : Int) - (D.an : Int) < 0) := by omega
        have HR : Hid (leftOf left (cntD D) = left - (x : Int) - (y : Int) - (D.an : Int)) := by rw [Hid, leftOf_pos (by rw [hcd]; omega), hcd]; omega
        clear c1 c2 c3 hcd
        go_enter Tryd.func7, Tryd.ntmps7
        go_wp2_with fail
        refine (H1.out _ hb0).mono ?_
        rintro e w1 ⟨rfl, hw⟩
        subst w1
        go_wp2_with fail
        refine H2'.mono ?_
        rintro e w1 ⟨rfl, hw⟩
        subst w1
        go_wp2_with fail
        refine H3'.mono ?_
        rintro e w1 ⟨rfl, hw⟩
        subst w1
        go_wp2_with fail
        go_ret
        exact ⟨ret_int HR.out.symm, hb0⟩
end Go.Proofs.YtolddecfibdblaaDoor

