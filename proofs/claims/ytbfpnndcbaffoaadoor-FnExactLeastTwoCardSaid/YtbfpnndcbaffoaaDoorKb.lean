/- the walks of l8Acc, l8To, numberAt, nextBy, differs, behind -/
import Derived.Test.YtbfpnndcbaffoaaDoorKa
import Derived.Test.YtbfpnndcbaffoaaDoorJq
import Derived.Test.YtbfpnndcbaffoaaDoorJf
import Derived.Deep.RegionHeld
namespace Go.Proofs.YtbfpnndcbaffoaaDoor
open Go.RowKit
set_option linter.unusedVariables false
set_option linter.unusedSimpArgs false

theorem bk_has {D : Dx} (h : DOk D) {k : Nat} (hk : k < D.pn) : Sb D.P k (bk D k) = true := by
  obtain ⟨r, hr⟩ := first_exists (Sb D.P k)
  have h0 := hr.pos (h.1.1 k hk).ne
  have e := bk_eq hr h0
  rcases hr with ⟨g, _⟩ | ⟨x, h1, h2, h3, _⟩
  · omega
  · have : x = bk D k := by omega
    rw [← this]; exact h3
theorem NextOf.bk {D : Dx} (h : DOk D) {s k : Nat} (hk : k < D.pn) {r : Int} (hr : NextOf D s (bk D k : Int) r) : r = D.R.G s k := by
  have hb := bk_has h hk
  exact hr.unique h (.inl ⟨k, hk, hb, rfl⟩)

set_option maxHeartbeats 1000000 in
theorem specAcc_any (D : Dx) (q : Int) (w : World) (h : DIn w D) (hd : DOk D) (hq : -1 ≤ q ∧ q < D.rn) :
    Calls Tryd.prog 43 #[dv D, .int .i64 q] w fun e w' => e = .returned (.int .i64 (accI D q)) ∧ Below w.heap.size w w' := by
  have hb0 : Below w.heap.size w (w.alloc (.cells #[.slice D.pa D.pn D.pc, .slice D.ra D.rn D.rc, .slice D.aa D.an D.ac] 32)) := (Below.refl _ _).alloc (Nat.le_refl _) _
  have han : D.an = D.rn := hd.2.2.1
  rw [dv]
  by_cases h0 : q < 0
  · have HA : Hid (accI D q = -1) := by rw [Hid, accI, if_pos (by omega)]
    clear h hd han
    go_enter Tryd.func43, Tryd.ntmps43
    go_wp2_with fail
    go_ret
    exact ⟨ret_int HA.out.symm, hb0⟩
  · obtain ⟨s, rfl⟩ : ∃ s : Nat, q = (s : Int) := ⟨q.toNat, by omega⟩
    have HA : Hid (accI D s = D.A s) := by rw [Hid, accI, if_neg (by omega), Int.toNat_natCast]
    have hs : s < D.an := by omega
    have hsz : (s : Int) < (D.an : Int) := by omega
    have haa : D.aa = some ⟨D.ab, D.aoff, none⟩ := h.ag (by omega)
    rw [haa] at hb0 ⊢
    have c1 := (h.a.below hb0) s hs
    clear h hd han hq haa
    go_enter Tryd.func43, Tryd.ntmps43
    go_wp2_with fail
    go_ret
    exact ⟨ret_int HA.out.symm, hb0⟩

set_option maxHeartbeats 1000000 in
theorem specTo_any (D : Dx) (q : Int) (k : Nat) (w : World) (h : DIn w D) (hm : DLe D 4194304) (hd : DOk D) (hq : -1 ≤ q ∧ q < D.rn) (hk : k < D.pn) :
    Calls Tryd.prog 45 #[dv D, .int .i64 q, .int .i64 (bk D k)] w fun e w' => e = .returned (.int .i64 (nxI D q k)) ∧ Below w.heap.size w w' := by
  obtain ⟨W0, hW0⟩ : ∃ W0, W0 = w.alloc (.cells #[.slice D.pa D.pn D.pc, .slice D.ra D.rn D.rc, .slice D.aa D.an D.ac] 32) := ⟨_, rfl⟩
  have hb0 : Below w.heap.size w W0 := by rw [hW0]; exact (Below.refl _ _).alloc (Nat.le_refl _) _
  have HB0 : Hid (Below w.heap.size w W0) := hb0
  by_cases h0 : q < 0
  · have HA : Hid (nxI D q k = -1) := by rw [Hid, nxI, if_pos (by omega)]
    clear h hd hm
    rw [dv]
    go_enter Tryd.func45, Tryd.ntmps45
    go_wp2_with fail
    go_ret
    rw [← hW0]
    exact ⟨ret_int HA.out.symm, HB0.out⟩
  · obtain ⟨s, rfl⟩ : ∃ s : Nat, q = (s : Int) := ⟨q.toNat, by omega⟩
    have HA : Hid (nxI D s k = D.R.G s k) := by rw [Hid, nxI, if_neg (by omega), Int.toNat_natCast]
    have H1 : Hid (Calls Tryd.prog 60 #[.agg #[.slice D.pa D.pn D.pc, .slice D.ra D.rn D.rc, .slice D.aa D.an D.ac], .int .i64 s, .int .i64 (bk D k)] W0 fun e w' => (∃ r : Int, e = .returned (.int .i64 r) ∧ NextOf D s (bk D k) r) ∧ Below W0.heap.size W0 w') := specNext_any D s (bk D k) W0 (h.below hb0) hm hd (by omega)
    have HU : Hid (∀ r, NextOf D s (bk D k : Int) r → r = D.R.G s k) := fun r hr => hr.bk hd hk
    obtain ⟨B, hB⟩ : ∃ B : Nat, B = bk D k := ⟨_, rfl⟩
    rw [← hB] at H1 HU ⊢
    clear h hd hm hq hk hb0 hB
    rw [dv]
    go_enter Tryd.func45, Tryd.ntmps45
    go_wp2_with fail
    rw [← hW0]
    clear hW0
    refine H1.out.mono ?_
    rintro e w1 ⟨⟨r, rfl, hr⟩, hb1⟩
    obtain rfl := HU.out r hr
    clear hr
    go_wp2_with fail
    go_ret
    exact ⟨ret_int HA.out.symm, HB0.out.trans (hb1.mono HB0.out.size)⟩

/-- number q of a list, -1 being none -/
def atI (G : Nat → Int) (q : Int) : Int := if q = -1 then -1 else G q.toNat
set_option maxHeartbeats 400000 in
theorem numberAt_any (a : Option Addr) (b off cap n : Nat) (G : Nat → Int) (q : Int) (w : World) (hga : 0 < n → a = some ⟨b, off, none⟩) (hc : Ip w b off n G) (hq : -1 ≤ q ∧ q < n) :
    Calls Tryd.prog 41 #[.slice a n cap, .int .i64 q] w fun e w' => e = .returned (.int .i64 (atI G q)) ∧ w' = w := by
  by_cases h0 : q = -1
  · have HA : Hid (atI G q = -1) := by rw [Hid, atI, if_pos h0]
    have hz : (q == -1) = true := by simp [h0]
    clear h0
    go_enter Tryd.func41, Tryd.ntmps41
    go_wp2_with fail
    go_ret
    exact ⟨ret_int HA.out.symm, rfl⟩
  · obtain ⟨s, rfl⟩ : ∃ s : Nat, q = (s : Int) := ⟨q.toNat, by omega⟩
    have HA : Hid (atI G s = G s) := by rw [Hid, atI, if_neg (by omega), Int.toNat_natCast]
    have hs : s < n := by omega
    have hsz : (s : Int) < (n : Int) := by omega
    obtain rfl := hga (by omega)
    have c1 := hc s hs
    have hz : ((s : Int) == -1) = false := by simp <;> omega
    clear h0 hq
    go_enter Tryd.func41, Tryd.ntmps41
    go_wp2_with fail
    go_ret
    exact ⟨ret_int HA.out.symm, rfl⟩

set_option maxHeartbeats 1000000 in
theorem nextBy_any (D : Dx) (q : Int) (k : Nat) (w : World) (h : DIn w D) (hd : DOk D) (hq : -1 ≤ q ∧ q < D.rn) (hk : k < D.pn) :
    Calls Tryd.prog 61 #[dv D, .int .i64 q, .int .i64 k] w fun e w' => e = .returned (.int .i64 (nxI D q k)) ∧ Below w.heap.size w w' := by
  have hb0 : Below w.heap.size w (w.alloc (.cells #[.slice D.pa D.pn D.pc, .slice D.ra D.rn D.rc, .slice D.aa D.an D.ac] 32)) := (Below.refl _ _).alloc (Nat.le_refl _) _
  rw [dv]
  by_cases h0 : q = -1
  · have HA : Hid (nxI D q k = -1) := by rw [Hid, nxI, if_pos h0]
    have hz : (q == -1) = true := by simp [h0]
    clear h hd h0 hq
    go_enter Tryd.func61, Tryd.ntmps61
    go_wp2_with fail
    go_ret
    exact ⟨ret_int HA.out.symm, hb0⟩
  · obtain ⟨s, rfl⟩ : ∃ s : Nat, q = (s : Int) := ⟨q.toNat, by omega⟩
    have HA : Hid (nxI D s k = D.R.G s k) := by rw [Hid, nxI, if_neg (by omega), Int.toNat_natCast]
    have hs : s < D.rn := by omega
    have hsz : (s : Int) < (D.rn : Int) := by omega
    have hra : D.ra = some ⟨D.rb, D.roff, none⟩ := h.rg (by omega)
    have hl := (hd.at hs).1
    rw [hra] at hb0 ⊢
    obtain ⟨c1, g1, t1⟩ := (h.r.below hb0) s hs
    rw [g1 (by omega)] at c1
    have c2 := t1 k (by omega)
    have hkz : (k : Int) < (D.R.n s : Int) := by omega
    have hz : ((s : Int) == -1) = false := by simp <;> omega
    clear h hd h0 hq hra g1 t1 hl
    go_enter Tryd.func61, Tryd.ntmps61
    go_wp2_with fail
    go_ret
    exact ⟨ret_int HA.out.symm, hb0⟩

set_option maxRecDepth 100000 in
set_option maxHeartbeats 400000 in
theorem differs_any (D : Dx) (x y : Int) (w : World) (h : DIn w D) (hd : DOk D) (hx : -1 ≤ x ∧ x < D.rn) (hy : -1 ≤ y ∧ y < D.rn) :
    Calls Tryd.prog 46 #[.agg #[.int .i64 x, .int .i64 y], dv D] w fun e w' => e = .returned (.bool (accI D x != accI D y)) ∧ Below w.heap.size w w' := by
  obtain ⟨W0, hW0⟩ : ∃ W0, W0 = (w.alloc (.cells #[.int .i64 x, .int .i64 y] 67)).alloc (.cells #[.slice D.pa D.pn D.pc, .slice D.ra D.rn D.rc, .slice D.aa D.an D.ac] 32) := ⟨_, rfl⟩
  have hb0 : Below w.heap.size w W0 := by rw [hW0]; exact ((Below.refl _ _).alloc (Nat.le_refl _) _).alloc (by simp) _
  have HB0 : Hid (Below w.heap.size w W0) := hb0
  have H1 : Hid (∀ (V : World) (q : Int), Below w.heap.size w V → -1 ≤ q ∧ q < D.rn → Calls Tryd.prog 41 #[.slice D.aa D.an D.ac, .int .i64 q] V fun e w' => e = .returned (.int .i64 (accI D q)) ∧ w' = V) := fun V q hV hq => by
    have := numberAt_any D.aa D.ab D.aoff D.ac D.an D.A q V h.ag (h.a.below hV) (by rw [hd.2.2.1]; exact hq)
    exact this
  have HX1 : Hid (∀ V, Below W0.heap.size W0 V → Calls Tryd.prog 41 #[.slice D.aa D.an D.ac, .int .i64 x] V fun e w' => e = .returned (.int .i64 (accI D x)) ∧ w' = V) := fun V hV => H1.out _ x (hb0.trans (hV.mono hb0.size)) hx
  have HX2 : Hid (∀ V, Below W0.heap.size W0 V → Calls Tryd.prog 41 #[.slice D.aa D.an D.ac, .int .i64 y] V fun e w' => e = .returned (.int .i64 (accI D y)) ∧ w' = V) := fun V hV => H1.out _ y (hb0.trans (hV.mono hb0.size)) hy
  have p0 : W0.cell? ⟨w.heap.size, 0, none⟩ = some (.int .i64 x) := by rw [hW0]; simp [go_sem]
  have p1 : W0.cell? ⟨w.heap.size, 1, none⟩ = some (.int .i64 y) := by rw [hW0]; simp [go_sem]
  have p2 : W0.cell? ⟨w.heap.size + 1, 2, none⟩ = some (.slice D.aa D.an D.ac) := by rw [hW0]; simp [go_sem]
  clear h hd hb0 H1 hx hy
  rw [dv]
  go_enter Tryd.func46, Tryd.ntmps46
  go_wp2_with fail
  rw [← hW0]
  clear hW0
  go_quiet ((first | (go_at_call 41; (with_reducible refine Calls.quiet_of_same (HX1.out _ ?_)); exact below_drewN (Below.refl _ _) _) | (go_at_call 41; (with_reducible refine Calls.quiet_of_same (HX2.out _ ?_)); exact below_drewN (Below.refl _ _) _)))
  go_wp2_with fail
  go_ret
  exact ⟨rfl, below_drewN HB0.out _⟩
end Go.Proofs.YtbfpnndcbaffoaaDoor

