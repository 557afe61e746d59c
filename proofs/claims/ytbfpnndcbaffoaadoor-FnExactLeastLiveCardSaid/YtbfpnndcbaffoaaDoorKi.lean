/- the walks of LeastLive of the model, and of what the project's calls -/
import Derived.Test.YtbfpnndcbaffoaaDoorKh
namespace Go.Proofs.YtbfpnndcbaffoaaDoor
open Go.RowKit
set_option linter.unusedVariables false
set_option linter.unusedSimpArgs false

theorem NewB.mono {P Q : Nat → (Nat → Bool) → Prop} {w0 w : World} {e : Ending} {w' : World} (h : NewB P w e w') (hpq : ∀ n F, P n F → Q n F) (hb : Below w0.heap.size w0 w) : NewB Q w0 e w' := by
  obtain ⟨a, b, n, c, F, rfl, h1, h2, h3⟩ := h
  exact ⟨a, b, n, c, F, rfl, fun hn => ⟨(h1 hn).1, Nat.le_trans hb.size (h1 hn).2.1, (h1 hn).2.2⟩, hpq n F h2, hb.trans (h3.mono hb.size)⟩

set_option maxRecDepth 100000 in
set_option maxHeartbeats 2000000 in
theorem specLeastLive_any (D : Dx) (w : World) (h : DIn w D) (hm : DLe D 4194304) :
    Calls Tryd.prog 7 #[dv D] w (NewB (LiveR D) w) := by
  obtain ⟨W0, hW0⟩ : ∃ W0, W0 = w.alloc (.cells #[.slice D.pa D.pn D.pc, .slice D.ra D.rn D.rc, .slice D.aa D.an D.ac] 32) := ⟨_, rfl⟩
  have hb0 : Below w.heap.size w W0 := by rw [hW0]; exact (Below.refl _ _).alloc (Nat.le_refl _) _
  have HX : Hid (∀ V, Below W0.heap.size W0 V → V.cell? ⟨w.heap.size, 0, none⟩ = some (.slice D.pa D.pn D.pc) ∧ V.cell? ⟨w.heap.size, 1, none⟩ = some (.slice D.ra D.rn D.rc) ∧ V.cell? ⟨w.heap.size, 2, none⟩ = some (.slice D.aa D.an D.ac)) := fun V hV => by
    refine ⟨((bcell hV).1 _ _ (by rw [hW0]; simp)).trans ?_, ((bcell hV).1 _ _ (by rw [hW0]; simp)).trans ?_, ((bcell hV).1 _ _ (by rw [hW0]; simp)).trans ?_⟩ <;> (rw [hW0]; simp [go_sem])
  have H1 : Hid (Calls Tryd.prog 25 #[.agg #[.slice D.pa D.pn D.pc, .slice D.ra D.rn D.rc, .slice D.aa D.an D.ac]] W0 (IsB (DOk D) W0)) := specDfaOk_any D W0 (h.below hb0) hm
  have H2 : Hid (∀ (V : World), Below w.heap.size w V → DOk D → Calls Tryd.prog 26 #[.agg #[.slice D.pa D.pn D.pc, .slice D.ra D.rn D.rc, .slice D.aa D.an D.ac]] V (NewB (LivesF D) V)) := fun V hV hd => specLive_any D V (h.below hV) hm hd
  have HB0 : Hid (Below w.heap.size w W0) := hb0
  rw [dv]
  clear h hm
  go_enter Tryd.func7, Tryd.ntmps7
  go_wp2_with fail
  rw [← hW0]
  clear hW0 hb0
  refine H1.out.mono ?_
  rintro e w1 ⟨ok, rfl, hok, hb1⟩
  have HOK : Hid (ok = true ↔ DOk D) := hok
  obtain ⟨p0, p1, p2⟩ := HX.out _ hb1
  have HB1 : Hid (Below w.heap.size w w1) := HB0.out.trans (hb1.mono HB0.out.size)
  clear hok
  cases ok
  · go_wp2_with fail
    go_ret
    exact .mk' (b := 0) (F := fun _ => false) (fun hn => absurd hn (Nat.lt_irrefl 0)) (.inr ⟨(fun h => by have := HOK.out.2 h; cases this), rfl⟩) (HB1.out.alloc HB1.out.size _)
  have H2' := H2.out w1 HB1.out (HOK.out.1 rfl)
  go_wp2_with fail
  refine H2'.mono ?_
  rintro e w2 h2
  have HR : Hid (NewB (LiveR D) w e w2) := h2.mono (fun n F hl => .inl ⟨HOK.out.1 (by simp), hl⟩) HB1.out
  obtain ⟨a, b, n, c, F, he, h3⟩ := HR.out
  subst he
  clear h2 H2'
  go_wp2_with fail
  go_ret
  exact ⟨a, b, n, c, F, rfl, h3⟩

/-- a state, or none, of which F says so -/
def isTo (F : Nat → Bool) (q : Int) : Bool := decide (0 ≤ q) && F q.toNat
set_option maxHeartbeats 1000000 in
theorem toLive_any (bx g n : Nat) (F : Nat → Bool) (q : Int) (w : World) (hx : w.cell? ⟨bx, 0, none⟩ = some (.slice (some ⟨g, 0, none⟩) n n)) (hr : w.rowIs g 4 n (fun j => .bool (F j))) (hq : -1 ≤ q ∧ q < n) (hn : n ≤ 1048576) :
    Calls Tryd.prog 31 #[.int .i64 q, .pointer (some ⟨bx, 0, none⟩)] w fun e w' => e = .returned (.bool (isTo F q)) ∧ w' = w := by
  by_cases h0 : q = -1
  · have HA : Hid (isTo F q = false) := by rw [Hid, isTo, h0]; rfl
    have hz : (q != -1) = false := by simp [h0]
    clear h0 hr
    go_enter Tryd.func31, Tryd.ntmps31
    go_wp2_with fail
    go_ret
    exact ⟨ret_bool HA.out.symm, rfl⟩
  · obtain ⟨s, rfl⟩ : ∃ s : Nat, q = (s : Int) := ⟨q.toNat, by omega⟩
    have HA : Hid (isTo F s = F s) := by rw [Hid, isTo]; simp
    have hs : s < n := by omega
    have hsz : (s : Int) < (n : Int) := by omega
    have c1 := hr.cell hs
    have hz : ((s : Int) != -1) = true := by simp <;> omega
    clear h0 hq hr
    go_enter Tryd.func31, Tryd.ntmps31
    go_wp2_with fail
    go_ret
    exact ⟨ret_bool HA.out.symm, rfl⟩

set_option maxHeartbeats 1000000 in
theorem indexLive_any (a : Option Addr) (b off cap m : Nat) (G : Nat → Int) (bx g n : Nat) (F : Nat → Bool) (w : World) (hga : 0 < m → a = some ⟨b, off, none⟩) (hc : Ip w b off m G) (hm : m ≤ 4194304)
    (hx : w.cell? ⟨bx, 0, none⟩ = some (.slice (some ⟨g, 0, none⟩) n n)) (hr : w.rowIs g 4 n (fun j => .bool (F j))) (hG : ∀ i, i < m → -1 ≤ G i ∧ G i < n) (hn : n ≤ 1048576) :
    Calls Tryd.prog 55 #[.slice a m cap, .func (.func 31) #[] #[.pointer (some ⟨bx, 0, none⟩)]] w fun e w' => (∃ r : Int, e = .returned (.int .i64 r) ∧ (0 ≤ r ↔ ∃ i, i < m ∧ isTo F (G i) = true)) ∧ w' = w := by
  have HC : Hid (∀ q : Int, -1 ≤ q ∧ q < n → Calls Tryd.prog 31 #[.int .i64 q, .pointer (some ⟨bx, 0, none⟩)] w fun e w' => e = .returned (.bool (isTo F q)) ∧ w' = w) := fun q hq => toLive_any bx g n F q w hx hr hq hn
  have HG : Hid (∀ i, i < m → -1 ≤ G i ∧ G i < n) := hG
  clear hG hr hx
  go_enter Tryd.func55, Tryd.ntmps55
  go_wp2_with fail
  go_loop [8] (fun i => ∃ k : Nat, k ≤ m ∧ i = .int .i64 k ∧ Hid (∀ j, j < k → isTo F (G j) = false)) (fun i => m - (intOf i).toNat)
  case atStart => exact ⟨0, Nat.zero_le _, rfl, fun j hj => absurd hj (Nat.not_lt_zero _)⟩
  case round =>
    obtain ⟨k, hk, rfl, HA⟩ := hrel
    by_cases hlt : k < m
    · obtain rfl := hga (by omega)
      have hltz : (k : Int) < (m : Int) := by omega
      have c1 := hc k hlt
      have HCK := HC.out (G k) (HG.out k hlt)
      cases hb : isTo F (G k)
      · rw [hb] at HCK
        have HF : Hid (isTo F (G k) = false) := hb
        have HCC : Hid (Calls Tryd.prog 31 #[.int .i64 (G k), .pointer (some ⟨bx, 0, none⟩)] w fun e w' => e = .returned (.bool false) ∧ w' = w) := HCK
        clear HCK hb
        go_wp2_with fail
        refine HCC.out.mono ?_
        rintro e w1 ⟨rfl, hw⟩
        subst w1
        go_wp2_with fail
        go_round
        case rel => exact ⟨k + 1, by omega, by go_num, fun j hj => (by by_cases ej : j = k; exact ej ▸ HF.out; exact HA.out j (by omega))⟩
        case measure => simp [intOf]; omega
      · rw [hb] at HCK
        have HF : Hid (isTo F (G k) = true) := hb
        have HCC : Hid (Calls Tryd.prog 31 #[.int .i64 (G k), .pointer (some ⟨bx, 0, none⟩)] w fun e w' => e = .returned (.bool true) ∧ w' = w) := HCK
        clear HCK hb
        go_wp2_with fail
        refine HCC.out.mono ?_
        rintro e w1 ⟨rfl, hw⟩
        subst w1
        go_wp2_with fail
        go_ret
        exact ⟨⟨k, rfl, ⟨fun _ => ⟨k, hlt, HF.out⟩, fun _ => by omega⟩⟩, rfl⟩
    · have hltz : ¬ (k : Int) < (m : Int) := by omega
      go_wp2_with fail
      go_ret
      refine ⟨⟨-1, rfl, ⟨fun h => by omega, fun ⟨i, hi, h1⟩ => ?_⟩⟩, rfl⟩
      rw [HA.out i (by omega)] at h1
      cases h1
set_option maxHeartbeats 1000000 in
theorem containsLive_any (a : Option Addr) (b off cap m : Nat) (G : Nat → Int) (bx g n : Nat) (F : Nat → Bool) (w : World) (hga : 0 < m → a = some ⟨b, off, none⟩) (hc : Ip w b off m G) (hm : m ≤ 4194304)
    (hx : w.cell? ⟨bx, 0, none⟩ = some (.slice (some ⟨g, 0, none⟩) n n)) (hr : w.rowIs g 4 n (fun j => .bool (F j))) (hG : ∀ i, i < m → -1 ≤ G i ∧ G i < n) (hn : n ≤ 1048576) :
    Calls Tryd.prog 32 #[.slice a m cap, .func (.func 31) #[] #[.pointer (some ⟨bx, 0, none⟩)]] w fun e w' => e = .returned (.bool ((List.range m).any (fun i => isTo F (G i)))) ∧ w' = w := by
  have HC := indexLive_any a b off cap m G bx g n F w hga hc hm hx hr hG hn
  clear hga hc hx hr hG
  go_enter Tryd.func32, Tryd.ntmps32
  go_wp2_with fail
  refine HC.mono ?_
  rintro e w1 ⟨⟨r, rfl, hr⟩, hw⟩
  subst w1
  have HR : Hid ((List.range m).any (fun i => isTo F (G i)) = decide (0 ≤ r)) := by
    rw [Hid, Bool.eq_iff_iff, decide_eq_true_eq, hr, List.any_eq_true]
    simp only [List.mem_range]
  clear hr HC
  go_wp2_with fail
  go_ret
  exact ⟨ret_bool HR.out.symm, rfl⟩
end Go.Proofs.YtbfpnndcbaffoaaDoor

