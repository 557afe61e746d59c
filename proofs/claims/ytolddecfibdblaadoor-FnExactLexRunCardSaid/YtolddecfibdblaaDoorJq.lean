/- the walks of DfaNext, both sides -/
import Derived.Test.YtolddecfibdblaaDoorJo
import Derived.Test.YtolddecfibdblaaDoorJn
namespace Go.Proofs.YtolddecfibdblaaDoor
open Go.RowKit
set_option linter.unusedVariables false
set_option linter.unusedSimpArgs false

/-- the state behind a byte, of a machine that is one, from a state that is one -/
def NextOf (D : Dx) (s : Nat) (x : Int) (r : Int) : Prop := (∃ k, k < D.pn ∧ hasB (D.P.n k) (D.P.L k) (D.P.H k) x = true ∧ r = D.R.G s k) ∨ ((∀ k, k < D.pn → hasB (D.P.n k) (D.P.L k) (D.P.H k) x = false) ∧ r = -1)
/-- a byte of a set that is ok is one -/
theorem has_byte {n : Nat} {L H : Nat → Int} {x : Int} (hok : okB n L H = true) (h : hasB n L H x = true) : 0 ≤ x ∧ x ≤ 255 := by
  obtain ⟨i, hi, h1, h2⟩ := hasB_iff.1 h
  have := okB_iff.1 hok i hi
  unfold OkAt at this
  omega
theorem one_part {D : Dx} (h : DOk D) {x : Int} {i j : Nat} (hi : i < D.pn) (hj : j < D.pn) (h1 : hasB (D.P.n i) (D.P.L i) (D.P.H i) x = true) (h2 : hasB (D.P.n j) (D.P.L j) (D.P.H j) x = true) : i = j := by
  have hx := has_byte (h.1.1 i hi).ok h1
  have e : ((x.toNat : Nat) : Int) = x := by omega
  have key : ∀ a b : Nat, b < a → a < D.pn → hasB (D.P.n a) (D.P.L a) (D.P.H a) x = true → hasB (D.P.n b) (D.P.L b) (D.P.H b) x = true → False := fun a b hab ha g1 g2 =>
    (h.1.1 a ha).dis b hab x.toNat (by omega) ⟨by rw [Sb, hs, e]; exact g1, by rw [Sb, hs, e]; exact g2⟩
  rcases Nat.lt_trichotomy i j with g | g | g
  · exact (key j i g hj h2 h1).elim
  · exact g
  · exact (key i j g hi h1 h2).elim
theorem NextOf.unique {D : Dx} (h : DOk D) {s : Nat} {x r r' : Int} (h1 : NextOf D s x r) (h2 : NextOf D s x r') : r = r' := by
  rcases h1 with ⟨i, hi, g1, rfl⟩ | ⟨g1, rfl⟩ <;> rcases h2 with ⟨j, hj, g2, rfl⟩ | ⟨g2, rfl⟩
  · rw [one_part h hi hj g1 g2]
  · rw [g2 i hi] at g1; cases g1
  · rw [g1 j hj] at g2; cases g2
  · rfl
/-- a byte is in one of the parts -/
theorem some_part {D : Dx} (h : DOk D) {x : Nat} (hx : x < 256) : ∃ k, k < D.pn ∧ Sb D.P k x = true := uni_iff.1 (h.1.2 x hx)
theorem NextOf.bd {D : Dx} (h : DOk D) {s : Nat} (hs : s < D.rn) {x r : Int} (h1 : NextOf D s x r) : -1 ≤ r ∧ r ≤ (D.rn : Int) - 1 := by
  rcases h1 with ⟨i, hi, _, rfl⟩ | ⟨_, rfl⟩
  · have := h.at hs
    exact this.2.1 i (by rw [this.1]; exact hi)
  · have := h.2.1.1; omega
theorem NextOf.congr {D D' : Dx} (e : DEq D D') {s : Nat} (hs : s < D.rn) (hl : D.R.n s = D.pn) {x r : Int} (h : NextOf D s x r) : NextOf D' s x r := by
  obtain ⟨⟨e1, f1⟩, ⟨e2, f2⟩, _⟩ := e
  have hb : ∀ k, k < D.pn → hasB (D'.P.n k) (D'.P.L k) (D'.P.H k) x = hasB (D.P.n k) (D.P.L k) (D.P.H k) x := fun k hk => by
    obtain ⟨g1, g2⟩ := f1 k hk
    rw [Bool.eq_iff_iff, hasB_iff, hasB_iff, ← g1]
    exact ⟨fun ⟨i, h1, h2⟩ => ⟨i, h1, by rw [(g2 i h1).1, (g2 i h1).2]; exact h2⟩, fun ⟨i, h1, h2⟩ => ⟨i, h1, by rw [← (g2 i h1).1, ← (g2 i h1).2]; exact h2⟩⟩
  rcases h with ⟨k, hk, h1, h2⟩ | ⟨h1, h2⟩
  · exact .inl ⟨k, by rw [← e1]; exact hk, by rw [hb k hk]; exact h1, by rw [h2]; exact (f2 s hs).2 k (by rw [hl]; exact hk)⟩
  · exact .inr ⟨fun k hk => by rw [hb k (by rw [e1]; exact hk)]; exact h1 k (by rw [e1]; exact hk), h2⟩

set_option maxRecDepth 100000 in
set_option maxHeartbeats 4000000 in
theorem specNext_any (D : Dx) (s : Nat) (x : Int) (w : World) (h : DIn w D) (hm : DLe D 4194304) (hd : DOk D) (hs : s < D.rn) :
    Calls Tryd.prog 46 #[dv D, .int .i64 s, .int .i64 x] w fun e w' => (∃ r : Int, e = .returned (.int .i64 r) ∧ NextOf D s x r) ∧ Below w.heap.size w w' := by
  have hb0 : Below w.heap.size w (w.alloc (.cells #[.slice D.pa D.pn D.pc, .slice D.ra D.rn D.rc, .slice D.aa D.an D.ac] 31)) := (Below.refl _ _).alloc (Nat.le_refl _) _
  have hpg := h.pg
  have hra : D.ra = some ⟨D.rb, D.roff, none⟩ := h.rg (by omega)
  obtain ⟨d1, g1, t1⟩ := (h.r.below hb0) s hs
  have hl := (hd.at hs).1
  have hpn4 := hm.p
  have hrn4 := hm.r
  have hpi := hm.pi
  have HC : Hid (∀ V, Below w.heap.size w V → SS V D.pb D.poff D.pn D.P) := fun V hV => h.p.below hV
  rw [dv, hra]
  rw [hra] at hb0 d1 t1
  have hsz : (s : Int) < (D.rn : Int) := by omega
  clear h hm hra
  go_enter Tryd.func46, Tryd.ntmps46
  go_wp2_with fail
  obtain ⟨W0, hW0⟩ : ∃ W0, w.alloc (.cells #[.slice D.pa D.pn D.pc, .slice (some ⟨D.rb, D.roff, none⟩) D.rn D.rc, .slice D.aa D.an D.ac] 31) = W0 := ⟨_, rfl⟩
  have p0 : W0.cell? ⟨w.heap.size, 0, none⟩ = some (.slice D.pa D.pn D.pc) := by rw [← hW0]; simp [go_sem]
  have p1 : W0.cell? ⟨w.heap.size, 1, none⟩ = some (.slice (some ⟨D.rb, D.roff, none⟩) D.rn D.rc) := by rw [← hW0]; simp [go_sem]
  rw [hW0] at hb0 d1 t1 ⊢
  clear hW0
  have HB0 : Hid (Below w.heap.size w W0) := hb0
  have HNO : Hid (∀ k, k < D.pn → D.R.n s = D.pn) := fun _ _ => hl
  go_loop [7] (fun i => ∃ k : Nat, k ≤ D.pn ∧ i = .int .i64 k ∧ Hid (∀ j, j < k → hasB (D.P.n j) (D.P.L j) (D.P.H j) x = false)) (fun i => D.pn - (intOf i).toNat)
  case atStart => exact ⟨0, Nat.zero_le _, rfl, fun j hj => absurd hj (Nat.not_lt_zero _)⟩
  case round =>
    obtain ⟨k, hk, rfl, HA⟩ := hrel
    by_cases hlt : k < D.pn
    · have hpa : D.pa = some ⟨D.pb, D.poff, none⟩ := hpg (by omega)
      rw [hpa] at p0
      have hltz : (k : Int) < (D.pn : Int) := by omega
      obtain ⟨c1, k1, s1⟩ := (HC.out _ hb0) k hlt
      have HH := specSetHas_any (D.P.a k) (D.P.b k) (D.P.off k) (D.P.cap k) (D.P.n k) (D.P.L k) (D.P.H k) x W0 k1 s1 (hpi k hlt)
      cases hb : hasB (D.P.n k) (D.P.L k) (D.P.H k) x
      · rw [hb] at HH
        have HHH : Hid (Calls Tryd.prog 60 #[.slice (D.P.a k) (D.P.n k) (D.P.cap k), .int .i64 x] W0 fun e w' => e = .returned (.bool false) ∧ w' = W0) := HH
        have HF : Hid (hasB (D.P.n k) (D.P.L k) (D.P.H k) x = false) := hb
        clear HH hb k1 s1 hpa
        go_wp2_with fail
        refine HHH.out.mono ?_
        rintro e w1 ⟨rfl, hw⟩
        subst w1
        go_wp2_with fail
        go_round
        case rel => exact ⟨k + 1, by omega, by go_num, fun j hj => (by by_cases ej : j = k; exact ej ▸ HF.out; exact HA.out j (by omega))⟩
        case measure => simp [intOf]; omega
      · rw [hb] at HH
        have HHH : Hid (Calls Tryd.prog 60 #[.slice (D.P.a k) (D.P.n k) (D.P.cap k), .int .i64 x] W0 fun e w' => e = .returned (.bool true) ∧ w' = W0) := HH
        have HF : Hid (NextOf D s x (D.R.G s k)) := .inl ⟨k, hlt, hb, rfl⟩
        have hR : D.R.a s = some ⟨D.R.b s, D.R.off s, none⟩ := g1 (by omega)
        have hkl : (k : Int) < (D.R.n s : Int) := by omega
        have d2 := t1 k (by omega)
        rw [hR] at d1
        clear HH hb k1 s1 hpa hR
        go_wp2_with fail
        refine HHH.out.mono ?_
        rintro e w1 ⟨rfl, hw⟩
        subst w1
        go_wp2_with fail
        go_ret
        exact ⟨⟨_, rfl, HF.out⟩, HB0.out⟩
    · have hltz : ¬ (k : Int) < (D.pn : Int) := by omega
      go_wp2_with fail
      go_ret
      exact ⟨⟨-1, rfl, .inr ⟨fun j hj => HA.out j (by omega), rfl⟩⟩, HB0.out⟩
end Go.Proofs.YtolddecfibdblaaDoor

