/- the walks of rowsOk, accOk and DfaOk of the project -/
import Derived.Test.YtolddecfibdblaaDoorJj
import Derived.Test.YtolddecfibdblaaDoorJk
namespace Go.Proofs.YtolddecfibdblaaDoor
open Go.RowKit
set_option linter.unusedVariables false
set_option linter.unusedSimpArgs false

/-- the rows are such of so many parts -/
def RowsG (n : Nat) (N : Nsi) (m : Nat) : Prop := 1 ≤ n ∧ n ≤ 40 ∧ ∀ s, s < n → N.n s = m ∧ Within (N.n s) (N.G s) (-1) (n - 1)
/-- the machine is one -/
def DOk (D : Dx) : Prop := PartsGood D.pn D.P ∧ RowsG D.rn D.R D.pn ∧ (D.an = D.rn ∧ Within D.an D.A (-1) 4)

set_option maxHeartbeats 2000000 in
theorem rowsOk_any (a : Option Addr) (b off cap n m : Nat) (N : Nsi) (w : World) (hga : 0 < n → a = some ⟨b, off, none⟩) (hc : IS w b off n N) (hn : n ≤ 4194304) (hm : m ≤ 4194304) (hni : ∀ i, i < n → N.n i ≤ 4194304) :
    Calls Tryd.prog 49 #[.slice a n cap, .int .i64 m] w (IsB (RowsG n N m) w) := by
  by_cases h1 : n < 1
  · have h1z : decide ((n : Int) < 1) = true := by simp; omega
    have h1y : (n : Int) < 1 := by omega
    go_enter Tryd.func49, Tryd.ntmps49
    go_wp2_with fail
    go_ret
    exact .no (fun h => by have := h.1; omega) (Below.refl _ _)
  have h1y : ¬ (n : Int) < 1 := by omega
  by_cases h2 : 40 < n
  · have h2y : (40 : Int) < (n : Int) := by omega
    go_enter Tryd.func49, Tryd.ntmps49
    go_wp2_with fail
    go_ret
    exact .no (fun h => by have := h.2.1; omega) (Below.refl _ _)
  have h2y : ¬ (40 : Int) < (n : Int) := by omega
  go_enter Tryd.func49, Tryd.ntmps49
  go_wp2_with fail
  go_loopw [17] (fun i wr => ∃ k : Nat, k ≤ n ∧ i = .int .i64 k ∧ Hid (∀ s, s < k → N.n s = m ∧ Within (N.n s) (N.G s) (-1) (n - 1)) ∧ Below w.heap.size w wr) (fun i _ => n - (intOf i).toNat)
  case atStart => exact ⟨0, Nat.zero_le _, rfl, fun j hj => absurd hj (Nat.not_lt_zero _), Below.refl _ _⟩
  case round =>
    obtain ⟨k, hk, rfl, HA, hB⟩ := hrel
    by_cases hlt : k < n
    · obtain rfl := hga (by omega)
      have hltz : (k : Int) < (n : Int) := by omega
      obtain ⟨c1, g1, s1⟩ := (hc.below hB) k hlt
      by_cases he : N.n k = m
      · have hne : ((N.n k : Int) != (m : Int)) = false := by simp [he]
        have HW := within_any (N.a k) (N.b k) (N.off k) (N.cap k) (N.n k) (N.G k) (-1) ((n : Int) - 1) wr g1 s1 (hni k hlt)
        have HWW : Hid (Calls Tryd.prog 68 #[.slice (N.a k) (N.n k) (N.cap k), .int .i64 (-1), .int .i64 ((n : Int) - 1)] wr (IsB (Within (N.n k) (N.G k) (-1) ((n : Int) - 1)) wr)) := HW
        have HE : Hid (N.n k = m) := he
        clear HW g1 s1 he
        go_wp2_with fail
        refine HWW.out.mono ?_
        rintro e w1 ⟨ok, rfl, hok, hb1⟩
        have HOK : Hid (ok = true ↔ Within (N.n k) (N.G k) (-1) ((n : Int) - 1)) := hok
        clear hok
        cases ok
        · go_wp2_with fail
          go_ret
          exact .no (fun h => by have := HOK.out.2 (h.2.2 k hlt).2; cases this) (hB.trans (hb1.mono hB.size))
        · go_wp2_with fail
          go_roundw
          case rel => exact ⟨k + 1, by omega, by go_num, fun j hj => (by by_cases ej : j = k; exact ej ▸ ⟨HE.out, HOK.out.1 (by simp)⟩; exact HA.out j (by omega)), hB.trans (hb1.mono hB.size)⟩
          case measure => simp [intOf]; omega
      · have hne : ((N.n k : Int) != (m : Int)) = true := by simp; omega
        have HE : Hid (¬ N.n k = m) := he
        clear g1 s1 he
        go_wp2_with fail
        go_ret
        exact .no (fun h => HE.out (h.2.2 k hlt).1) hB
    · have hltz : ¬ (k : Int) < (n : Int) := by omega
      have hek : k = n := by omega
      go_wp2_with fail
      go_ret
      exact .yes ⟨by omega, by omega, fun s hs => HA.out s (by omega)⟩ hB

set_option maxHeartbeats 1000000 in
theorem accOk_any (a : Option Addr) (b off cap n m : Nat) (G : Nat → Int) (w : World) (hga : 0 < n → a = some ⟨b, off, none⟩) (hc : Ip w b off n G) (hn : n ≤ 4194304) (hm : m ≤ 4194304) :
    Calls Tryd.prog 50 #[.slice a n cap, .int .i64 m] w (IsB (n = m ∧ Within n G (-1) 4) w) := by
  have HW : Hid (Calls Tryd.prog 68 #[.slice a n cap, .int .i64 (-1), .int .i64 4] w (IsB (Within n G (-1) 4) w)) := within_any a b off cap n G (-1) 4 w hga hc hn
  by_cases he : n = m
  · have hne : ((n : Int) == (m : Int)) = true := by simp [he]
    have HE : Hid (n = m) := he
    clear he
    go_enter Tryd.func50, Tryd.ntmps50
    go_wp2_with fail
    refine HW.out.mono ?_
    rintro e w1 ⟨ok, rfl, hok, hb1⟩
    have HOK : Hid (ok = true ↔ Within n G (-1) 4) := hok
    clear hok
    go_wp2_with fail
    go_ret
    exact ⟨ok, rfl, ⟨fun h => ⟨HE.out, HOK.out.1 h⟩, fun h => HOK.out.2 h.2⟩, hb1⟩
  · have hne : ((n : Int) == (m : Int)) = false := by simp; omega
    have HE : Hid (¬ n = m) := he
    clear he
    go_enter Tryd.func50, Tryd.ntmps50
    go_wp2_with fail
    go_ret
    exact .no (fun h => HE.out h.1) (Below.refl _ _)

set_option maxHeartbeats 2000000 in
theorem implDfaOk_any (D : Dx) (w : World) (ht : TabZ w) (hw0 : 0 < w.heap.size) (h : DIn w D) (hm : DLe D 4194304) :
    Calls Tryd.prog 30 #[dv D] w (IsB (DOk D) w) := by
  have hb0 : Below w.heap.size w (w.alloc (.cells #[.slice D.pa D.pn D.pc, .slice D.ra D.rn D.rc, .slice D.aa D.an D.ac] 31)) := (Below.refl _ _).alloc (Nat.le_refl _) _
  have H1 : Hid (Calls Tryd.prog 48 #[.slice D.pa D.pn D.pc] (w.alloc (.cells #[.slice D.pa D.pn D.pc, .slice D.ra D.rn D.rc, .slice D.aa D.an D.ac] 31)) (IsB (PartsGood D.pn D.P) (w.alloc (.cells #[.slice D.pa D.pn D.pc, .slice D.ra D.rn D.rc, .slice D.aa D.an D.ac] 31)))) :=
    implParts_any _ _ _ _ _ _ _ (ht.below hb0) (by have := hb0.size; omega) h.pg (h.p.below hb0) hm.p hm.pi
  have H2 : Hid (∀ V, Below w.heap.size w V → Calls Tryd.prog 49 #[.slice D.ra D.rn D.rc, .int .i64 D.pn] V (IsB (RowsG D.rn D.R D.pn) V)) := fun V hV => rowsOk_any _ _ _ _ _ _ _ _ h.rg (h.r.below hV) hm.r hm.p hm.ri
  have H3 : Hid (∀ V, Below w.heap.size w V → Calls Tryd.prog 50 #[.slice D.aa D.an D.ac, .int .i64 D.rn] V (IsB (D.an = D.rn ∧ Within D.an D.A (-1) 4) V)) := fun V hV => accOk_any _ _ _ _ _ _ _ _ h.ag (h.a.below hV) hm.a hm.r
  rw [dv]
  clear h hm
  go_enter Tryd.func30, Tryd.ntmps30
  go_wp2_with fail
  refine H1.out.mono ?_
  rintro e w1 ⟨ok1, rfl, hok1, hb1⟩
  have HK1 : Hid (ok1 = true ↔ PartsGood D.pn D.P) := hok1
  obtain ⟨hc1, _⟩ := bcell hb1
  have p0 : w1.cell? ⟨w.heap.size, 0, none⟩ = some (.slice D.pa D.pn D.pc) := by rw [hc1 _ _ (by simp <;> omega)]; simp [go_sem]
  have p1 : w1.cell? ⟨w.heap.size, 1, none⟩ = some (.slice D.ra D.rn D.rc) := by rw [hc1 _ _ (by simp <;> omega)]; simp [go_sem]
  have p2 : w1.cell? ⟨w.heap.size, 2, none⟩ = some (.slice D.aa D.an D.ac) := by rw [hc1 _ _ (by simp <;> omega)]; simp [go_sem]
  have hB1 := hb0.trans (hb1.mono hb0.size)
  have hz1 : w.heap.size + 1 ≤ w1.heap.size := by have := hb1.size; simp at this; omega
  clear hc1 hok1 hb1 hb0
  cases ok1
  · go_wp2_with fail
    go_ret
    exact .no (fun h => by have := HK1.out.2 h.1; cases this) hB1
  go_wp2_with fail
  refine (H2.out _ hB1).mono ?_
  rintro e w2 ⟨ok2, rfl, hok2, hb2⟩
  have HK2 : Hid (ok2 = true ↔ RowsG D.rn D.R D.pn) := hok2
  obtain ⟨hc2, _⟩ := bcell hb2
  have p4 : w2.cell? ⟨w.heap.size, 1, none⟩ = some (.slice D.ra D.rn D.rc) := by rw [hc2 _ _ (by omega)]; exact p1
  have p5 : w2.cell? ⟨w.heap.size, 2, none⟩ = some (.slice D.aa D.an D.ac) := by rw [hc2 _ _ (by omega)]; exact p2
  have hB2 := hB1.trans (hb2.mono hB1.size)
  clear hc2 hok2 hb2 hB1 p0 p1 p2
  cases ok2
  · go_wp2_with fail
    go_ret
    exact .no (fun h => by have := HK2.out.2 h.2.1; cases this) hB2
  go_wp2_with fail
  refine (H3.out _ hB2).mono ?_
  rintro e w3 ⟨ok3, rfl, hok3, hb3⟩
  go_wp2_with fail
  go_ret
  exact ⟨ok3, rfl, hok3.trans ⟨fun h => ⟨HK1.out.1 (by simp), HK2.out.1 (by simp), h⟩, fun h => h.2.2⟩, hB2.trans (hb3.mono hB2.size)⟩
end Go.Proofs.YtolddecfibdblaaDoor

