/- the walk of l3Cat -/
import Derived.Test.YtplpdikkkbiacaaGreatDoorMb
namespace Go.Proofs.YtplpdikkkbiacaaGreatDoor
open Go.RowKit
set_option linter.unusedVariables false
set_option linter.unusedSimpArgs false

/-- the matching function of the model, at one Rex (as a value), from this world on -/
def L3 (w : World) (v : Value) (f : List UInt8 → Bool) : Prop := ∀ (s : ByteArray) (w1 : World), s.size ≤ 12 → Below w.heap.size w w1 →
  Calls Tryz.prog 43 #[v, .string s] w1 fun e w' => e = .returned (.bool (f (tx s))) ∧ Below w1.heap.size w1 w'

theorem cut_step {f g : List UInt8 → Bool} {l : List UInt8} {k : Nat} (h : ∀ j, j < k → (f (l.take j) && g (l.drop j)) = false) (hk : (f (l.take k) && g (l.drop k)) = false) : ∀ j, j < k + 1 → (f (l.take j) && g (l.drop j)) = false := by
  intro j hj
  by_cases e : j = k
  · subst e; exact hk
  · exact h j (by omega)
theorem cut_none {f g : List UInt8 → Bool} {l : List UInt8} (h : ∀ j, j < l.length + 1 → (f (l.take j) && g (l.drop j)) = false) : cutB f g l = false := by
  rw [← Bool.not_eq_true]
  intro e
  simp only [cutB, List.any_eq_true, List.mem_range] at e
  obtain ⟨k, hk, h'⟩ := e
  rw [h k hk] at h'
  cases h'
theorem cut_some {f g : List UInt8 → Bool} {l : List UInt8} {k : Nat} (hk : k ≤ l.length) (h1 : f (l.take k) = true) (h2 : g (l.drop k) = true) : cutB f g l = true := cutB_iff.2 ⟨k, hk, h1, h2⟩

set_option maxRecDepth 100000 in
set_option maxHeartbeats 2000000 in
theorem l3Cat_any (k1 k2 : Int) (a1 b1 a2 b2 : Option Addr) (n1 c1 m1 d1 n2 c2 m2 d2 : Nat) (f g : List UInt8 → Bool) (s : ByteArray) (hs : s.size ≤ 12) (w : World)
    (H1 : Hid (L3 w (.agg #[.int .i64 k1, .slice a1 n1 c1, .slice b1 m1 d1]) f)) (H2 : Hid (L3 w (.agg #[.int .i64 k2, .slice a2 n2 c2, .slice b2 m2 d2]) g)) :
    Calls Tryz.prog 57 #[.agg #[.int .i64 k1, .slice a1 n1 c1, .slice b1 m1 d1], .agg #[.int .i64 k2, .slice a2 n2 c2, .slice b2 m2 d2], .string s] w fun e w' => e = .returned (.bool (cutB f g (tx s))) ∧ Below w.heap.size w w' := by
  have HSZ : Hid (s.size = (tx s).length) := tx_size s
  have hB0 : Below w.heap.size w ((w.alloc (.cells #[.int .i64 k1, .slice a1 n1 c1, .slice b1 m1 d1] 50)).alloc (.cells #[.int .i64 k2, .slice a2 n2 c2, .slice b2 m2 d2] 50)) := ((Below.refl _ _).alloc (Nat.le_refl _) _).alloc (by simp) _
  obtain ⟨W0, hW0⟩ : ∃ W0, W0 = ((w.alloc (.cells #[.int .i64 k1, .slice a1 n1 c1, .slice b1 m1 d1] 50)).alloc (.cells #[.int .i64 k2, .slice a2 n2 c2, .slice b2 m2 d2] 50)) := ⟨_, rfl⟩
  have x0 : W0.cell? ⟨w.heap.size, 0, none⟩ = some (.int .i64 k1) := by rw [hW0]; simp [go_sem]
  have x1 : W0.cell? ⟨w.heap.size, 1, none⟩ = some (.slice a1 n1 c1) := by rw [hW0]; simp [go_sem]
  have x2 : W0.cell? ⟨w.heap.size, 2, none⟩ = some (.slice b1 m1 d1) := by rw [hW0]; simp [go_sem]
  have y0 : W0.cell? ⟨w.heap.size + 1, 0, none⟩ = some (.int .i64 k2) := by rw [hW0]; simp [go_sem]
  have y1 : W0.cell? ⟨w.heap.size + 1, 1, none⟩ = some (.slice a2 n2 c2) := by rw [hW0]; simp [go_sem]
  have y2 : W0.cell? ⟨w.heap.size + 1, 2, none⟩ = some (.slice b2 m2 d2) := by rw [hW0]; simp [go_sem]
  have HX : Hid (∀ W, Below W0.heap.size W0 W → W.cell? ⟨w.heap.size, 0, none⟩ = some (.int .i64 k1) ∧ W.cell? ⟨w.heap.size, 1, none⟩ = some (.slice a1 n1 c1) ∧ W.cell? ⟨w.heap.size, 2, none⟩ = some (.slice b1 m1 d1)) := fun W hb =>
    ⟨(hb.cell (p := ⟨_, _, none⟩) (World.block_lt_of_cell? _ _ x0)).trans x0, (hb.cell (p := ⟨_, _, none⟩) (World.block_lt_of_cell? _ _ x1)).trans x1, (hb.cell (p := ⟨_, _, none⟩) (World.block_lt_of_cell? _ _ x2)).trans x2⟩
  have HY : Hid (∀ W, Below W0.heap.size W0 W → W.cell? ⟨w.heap.size + 1, 0, none⟩ = some (.int .i64 k2) ∧ W.cell? ⟨w.heap.size + 1, 1, none⟩ = some (.slice a2 n2 c2) ∧ W.cell? ⟨w.heap.size + 1, 2, none⟩ = some (.slice b2 m2 d2)) := fun W hb =>
    ⟨(hb.cell (p := ⟨_, _, none⟩) (World.block_lt_of_cell? _ _ y0)).trans y0, (hb.cell (p := ⟨_, _, none⟩) (World.block_lt_of_cell? _ _ y1)).trans y1, (hb.cell (p := ⟨_, _, none⟩) (World.block_lt_of_cell? _ _ y2)).trans y2⟩
  have HB0 : Hid (Below w.heap.size w W0) := by rw [hW0]; exact hB0
  clear hB0 x0 x1 x2 y0 y1 y2
  go_enter Tryz.func57, Tryz.ntmps57
  go_wp2_with fail
  rw [← hW0]
  clear hW0
  go_loopw [7] (fun i wr => ∃ k : Nat, k ≤ s.size + 1 ∧ i = .int .i64 k ∧ Hid (∀ j, j < k → (f ((tx s).take j) && g ((tx s).drop j)) = false) ∧ Below W0.heap.size W0 wr) (fun i _ => s.size + 1 - (intOf i).toNat)
  case atStart => exact ⟨0, Nat.zero_le _, rfl, fun j hj => absurd hj (Nat.not_lt_zero _), Below.refl _ _⟩
  case round =>
    obtain ⟨k, hk, rfl, Hall, hB⟩ := hrel
    by_cases hlt : k ≤ s.size
    · have hltz : (k : Int) ≤ (s.size : Int) := by omega
      have hk0 : (0 : Int) ≤ (k : Int) := by omega
      obtain ⟨p0, p1, p2⟩ := HX.out wr hB
      have hBd : Below w.heap.size w wr.drew := HB0.out.trans (hB.mono HB0.out.size).drew
      have HC1 : Hid (Calls Tryz.prog 43 #[.agg #[.int .i64 k1, .slice a1 n1 c1, .slice b1 m1 d1], .string (s.extract 0 k)] wr.drew fun e w' => e = .returned (.bool (f ((tx s).take k))) ∧ Below wr.drew.heap.size wr.drew w') := by
        have := H1.out (s.extract 0 k) wr.drew (by simp; omega) hBd
        rw [tx_head] at this
        exact this
      have HC2 : Hid (∀ W, Below wr.drew.heap.size wr.drew W → Calls Tryz.prog 43 #[.agg #[.int .i64 k2, .slice a2 n2 c2, .slice b2 m2 d2], .string (s.extract k s.size)] W fun e w' => e = .returned (.bool (g ((tx s).drop k))) ∧ Below W.heap.size W w') := fun W hb => by
        have := H2.out (s.extract k s.size) W (by simp; omega) (hBd.trans (hb.mono hBd.size))
        rw [tx_tail] at this
        exact this
      have HYW : Hid (∀ W, Below wr.drew.heap.size wr.drew W → W.cell? ⟨w.heap.size + 1, 0, none⟩ = some (.int .i64 k2) ∧ W.cell? ⟨w.heap.size + 1, 1, none⟩ = some (.slice a2 n2 c2) ∧ W.cell? ⟨w.heap.size + 1, 2, none⟩ = some (.slice b2 m2 d2)) := fun W hb => HY.out W (hB.drew.trans (hb.mono hB.drew.size))
      rcases Bool.eq_false_or_eq_true (f ((tx s).take k)) with hf | hf
      · rcases Bool.eq_false_or_eq_true (g ((tx s).drop k)) with hg | hg
        · have HR : Hid (cutB f g (tx s) = true) := cut_some (by rw [← HSZ.out]; exact hlt) hf hg
          rw [hf] at HC1
          rw [hg] at HC2
          go_wp2_with fail
          go_region_with (first
            | (go_at_call 43; refine (HC2.out w1 hb1).mono ?_; rintro e w2 ⟨rfl, hb2⟩)
            | (go_at_call 43; refine HC1.out.mono ?_; rintro e w1 ⟨rfl, hb1⟩; obtain ⟨q0, q1, q2⟩ := HYW.out w1 hb1))
          all_goals go_wp2_with fail
          all_goals
            go_ret
            exact ⟨ret_bool HR.out.symm, HB0.out.trans ((hB.drew.trans ((hb1.trans (hb2.mono hb1.size)).mono hB.drew.size)).mono HB0.out.size)⟩
        · have HN : Hid ((f ((tx s).take k) && g ((tx s).drop k)) = false) := by rw [Hid, hg]; simp
          rw [hf] at HC1
          rw [hg] at HC2
          go_wp2_with fail
          go_region_with (first
            | (go_at_call 43; refine (HC2.out w1 hb1).mono ?_; rintro e w2 ⟨rfl, hb2⟩)
            | (go_at_call 43; refine HC1.out.mono ?_; rintro e w1 ⟨rfl, hb1⟩; obtain ⟨q0, q1, q2⟩ := HYW.out w1 hb1))
          all_goals go_wp2_with fail
          all_goals
            go_roundw
            case rel => exact ⟨k + 1, by omega, by go_num, cut_step Hall.out HN.out, hB.drew.trans ((hb1.trans (hb2.mono hb1.size)).mono hB.drew.size)⟩
            case measure => simp [intOf]; omega
      · have HN : Hid ((f ((tx s).take k) && g ((tx s).drop k)) = false) := by rw [Hid, hf]; simp
        rw [hf] at HC1
        go_wp2_with fail
        first
          | go_region_with (go_at_call 43; refine HC1.out.mono ?_; rintro e w1 ⟨rfl, hb1⟩)
          | fail
        all_goals go_wp2_with fail
        all_goals
          go_roundw
          case rel => exact ⟨k + 1, by omega, by go_num, cut_step Hall.out HN.out, hB.drew.trans (hb1.mono hB.drew.size)⟩
          case measure => simp [intOf]; omega
    · have hltz : ¬ ((k : Int) ≤ (s.size : Int)) := by omega
      have HR : Hid (cutB f g (tx s) = false) := cut_none (fun j hj => Hall.out j (by rw [← HSZ.out] at hj; omega))
      go_wp2_with fail
      go_ret
      exact ⟨ret_bool HR.out.symm, HB0.out.trans (hB.mono HB0.out.size)⟩
end Go.Proofs.YtplpdikkkbiacaaGreatDoor

