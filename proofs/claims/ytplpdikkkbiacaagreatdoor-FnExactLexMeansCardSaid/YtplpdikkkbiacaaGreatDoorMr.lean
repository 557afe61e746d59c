/- the walk of the model's MatchLong -/
import Derived.Test.YtplpdikkkbiacaaGreatDoorMg
import Derived.Test.YtplpdikkkbiacaaGreatDoorMq
namespace Go.Proofs.YtplpdikkkbiacaaGreatDoor
open Go.RowKit
set_option linter.unusedVariables false
set_option linter.unusedSimpArgs false

/-- the pieces from a place on that are like it, by their lengths -/
def pieceB (S : Sh) (t : List UInt8) (a j : Nat) : Bool := lkB S ((t.drop a).take j)
/-- how long the longest from x on is, or -1 -/
def longR (S : Sh) (s : ByteArray) (x : Int) : Int :=
  if okR S = true ∧ s.size ≤ 12 ∧ 0 ≤ x ∧ x ≤ s.size then topI (pieceB S (tx s) x.toNat) (s.size - x.toNat + 1) else -1
theorem longR_no {S : Sh} {s : ByteArray} {x : Int} (h : ¬ (okR S = true ∧ s.size ≤ 12 ∧ 0 ≤ x ∧ x ≤ s.size)) : longR S s x = -1 := by rw [longR, if_neg h]
theorem longR_yes {S : Sh} {s : ByteArray} {a : Nat} (hok : okR S = true) (hs : s.size ≤ 12) (ha : a ≤ s.size) : longR S s (a : Int) = topI (pieceB S (tx s) a) (s.size - a + 1) := by
  rw [longR, if_pos ⟨hok, hs, by omega, by omega⟩]; rfl
theorem tx_piece (s : ByteArray) (a k : Nat) : tx (s.extract a k) = ((tx s).drop a).take (k - a) := tx_extract s a k
theorem from_piece (S : Sh) (s : ByteArray) (a m : Nat) : lkB S (tx (s.extract a (a + m))) = pieceB S (tx s) a m := by rw [tx_piece, Nat.add_sub_cancel_left]; rfl

/-- the way of MatchLong where nothing is to be told -/
def NoWay (S : Sh) (s : ByteArray) (x : Int) : Prop := okR S = false ∨ (okR S = true ∧ 12 < s.size) ∨ (okR S = true ∧ s.size ≤ 12 ∧ x < 0) ∨ (okR S = true ∧ s.size ≤ 12 ∧ 0 ≤ x ∧ (s.size : Int) < x)

set_option maxRecDepth 100000 in
set_option maxHeartbeats 2000000 in
theorem specMatchLong_no (S : Sh) (M : Mx) (s : ByteArray) (x : Int) (w : World) (hin : In AnyB w S M) (hcnt : cnt S ≤ 1048576) (hno : NoWay S s x) :
    Calls Tryz.prog 31 #[vx S M, .string s, .int .i64 x] w fun e w' => e = .returned (.int .i64 (-1)) ∧ Below w.heap.size w w' := by
  obtain ⟨a, n, c, a', m, c', z1, z2⟩ := hin.slices
  have hv : vx S M = .agg #[.int .i64 S.kind, .slice a n c, .slice a' m c'] := by rw [vx, z1, z2]
  have hB0 : Below w.heap.size w (w.alloc (.cells #[.int .i64 S.kind, .slice a n c, .slice a' m c'] 50)) := (Below.refl _ _).alloc (Nat.le_refl _) _
  have H14 : Hid (Calls Tryz.prog 30 #[vx S M] (w.alloc (.cells #[.int .i64 S.kind, .slice a n c, .slice a' m c'] 50)) fun e w' => e = .returned (.bool (okR S)) ∧ Below (w.alloc (.cells #[.int .i64 S.kind, .slice a n c, .slice a' m c'] 50)).heap.size (w.alloc (.cells #[.int .i64 S.kind, .slice a n c, .slice a' m c'] 50)) w') := specRexOk_any S M _ (hin.below hB0) hcnt
  have H15 : Hid (∀ w1, Calls Tryz.prog 15 #[.string s] w1 fun e w' => e = .returned (.bool (decide ((s.size : Int) ≤ 12))) ∧ w' = w1) := specWord_any s
  rw [hv] at H14 ⊢
  clear hv hin z1 z2
  rcases hno with hok | ⟨hok, hs⟩ | ⟨hok, hs, hx⟩ | ⟨hok, hs, hx0, hx⟩
  · rw [hok] at H14
    clear hok
    go_enter Tryz.func31, Tryz.ntmps31
    go_wp2_with fail
    refine H14.out.mono ?_
    rintro e w1 ⟨rfl, hb1⟩
    go_wp2_with fail
    go_ret
    exact ⟨rfl, hB0.trans (hb1.mono hB0.size)⟩
  · rw [hok] at H14
    rw [show decide ((s.size : Int) ≤ 12) = false from decide_eq_false (by omega)] at H15
    clear hok
    go_enter Tryz.func31, Tryz.ntmps31
    go_wp2_with fail
    refine H14.out.mono ?_
    rintro e w1 ⟨rfl, hb1⟩
    go_wp2_with fail
    refine (H15.out _).mono ?_
    rintro e w2 ⟨rfl, hw2⟩
    subst w2
    go_wp2_with fail
    go_ret
    exact ⟨rfl, hB0.trans (hb1.mono hB0.size)⟩
  · rw [hok] at H14
    rw [show decide ((s.size : Int) ≤ 12) = true from decide_eq_true (by omega)] at H15
    clear hok
    go_enter Tryz.func31, Tryz.ntmps31
    go_wp2_with fail
    refine H14.out.mono ?_
    rintro e w1 ⟨rfl, hb1⟩
    go_wp2_with fail
    refine (H15.out _).mono ?_
    rintro e w2 ⟨rfl, hw2⟩
    subst w2
    go_wp2_with fail
    go_ret
    exact ⟨rfl, hB0.trans (hb1.mono hB0.size)⟩
  · rw [hok] at H14
    rw [show decide ((s.size : Int) ≤ 12) = true from decide_eq_true (by omega)] at H15
    have hx0' : decide (x < 0) = false := decide_eq_false (by omega)
    clear hok
    go_enter Tryz.func31, Tryz.ntmps31
    go_wp2_with fail
    refine H14.out.mono ?_
    rintro e w1 ⟨rfl, hb1⟩
    go_wp2_with fail
    refine (H15.out _).mono ?_
    rintro e w2 ⟨rfl, hw2⟩
    subst w2
    go_wp2_with fail
    go_ret
    exact ⟨rfl, hB0.trans (hb1.mono hB0.size)⟩

set_option maxRecDepth 100000 in
set_option maxHeartbeats 2000000 in
theorem specMatchLong_yes (S : Sh) (M : Mx) (s : ByteArray) (x : Nat) (w : World) (hin : In AnyB w S M) (hcnt : cnt S ≤ 1048576) (hok : okR S = true) (hs : s.size ≤ 12) (hx : x ≤ s.size) :
    Calls Tryz.prog 31 #[vx S M, .string s, .int .i64 x] w fun e w' => e = .returned (.int .i64 (topI (pieceB S (tx s) x) (s.size - x + 1))) ∧ Below w.heap.size w w' := by
  obtain ⟨a, n, c, a', m, c', z1, z2⟩ := hin.slices
  have hv : vx S M = .agg #[.int .i64 S.kind, .slice a n c, .slice a' m c'] := by rw [vx, z1, z2]
  have hB0 : Below w.heap.size w (w.alloc (.cells #[.int .i64 S.kind, .slice a n c, .slice a' m c'] 50)) := (Below.refl _ _).alloc (Nat.le_refl _) _
  have H14 : Hid (Calls Tryz.prog 30 #[vx S M] (w.alloc (.cells #[.int .i64 S.kind, .slice a n c, .slice a' m c'] 50)) fun e w' => e = .returned (.bool (okR S)) ∧ Below (w.alloc (.cells #[.int .i64 S.kind, .slice a n c, .slice a' m c'] 50)).heap.size (w.alloc (.cells #[.int .i64 S.kind, .slice a n c, .slice a' m c'] 50)) w') := specRexOk_any S M _ (hin.below hB0) hcnt
  have H15 : Hid (∀ w1, Calls Tryz.prog 15 #[.string s] w1 fun e w' => e = .returned (.bool (decide ((s.size : Int) ≤ 12))) ∧ w' = w1) := specWord_any s
  have HX : Hid (∀ W, Below (w.alloc (.cells #[.int .i64 S.kind, .slice a n c, .slice a' m c'] 50)).heap.size (w.alloc (.cells #[.int .i64 S.kind, .slice a n c, .slice a' m c'] 50)) W → W.cell? ⟨w.heap.size, 0, none⟩ = some (.int .i64 S.kind) ∧ W.cell? ⟨w.heap.size, 1, none⟩ = some (.slice a n c) ∧ W.cell? ⟨w.heap.size, 2, none⟩ = some (.slice a' m c')) := fun W hb =>
    ⟨(hb.cell (p := ⟨_, _, none⟩) (by simp)).trans (by simp [go_sem]), (hb.cell (p := ⟨_, _, none⟩) (by simp)).trans (by simp [go_sem]), (hb.cell (p := ⟨_, _, none⟩) (by simp)).trans (by simp [go_sem])⟩
  have H16 : Hid (∀ k w1, k ≤ s.size - x → Below w.heap.size w w1 → Calls Tryz.prog 43 #[vx S M, .string (s.extract x (x + k))] w1 fun e w' => e = .returned (.bool (pieceB S (tx s) x k)) ∧ Below w1.heap.size w1 w') := fun k w1 hk hb => by
    have h := l3Is_any S 8 M w (okR_form hok) hin hcnt (s.extract x (x + k)) w1 (by simp; omega) hb
    rw [from_piece] at h
    exact h
  obtain ⟨N, hN⟩ : ∃ N, N = s.size - x := ⟨_, rfl⟩
  rw [hok] at H14
  rw [show decide ((s.size : Int) ≤ 12) = true from decide_eq_true (by omega)] at H15
  rw [hv] at H14 H16 ⊢
  rw [← hN] at H16 ⊢
  have hx0 : decide ((x : Int) < 0) = false := decide_eq_false (by omega)
  have hxs : ¬ ((s.size : Int) < (x : Int)) := by omega
  have hxn : decide (s.size < x) = false := decide_eq_false (by omega)
  obtain ⟨W0, hW0⟩ : ∃ W0, W0 = w.alloc (.cells #[.int .i64 S.kind, .slice a n c, .slice a' m c'] 50) := ⟨_, rfl⟩
  rw [← hW0] at H14 HX hB0
  have HB0 : Hid (Below w.heap.size w W0) := hB0
  clear hok hv hin z1 z2 hB0
  go_enter Tryz.func31, Tryz.ntmps31
  go_wp2_with fail
  rw [← hW0]
  clear hW0
  refine H14.out.mono ?_
  rintro e w1 ⟨rfl, hb1⟩
  go_wp2_with fail
  refine (H15.out _).mono ?_
  rintro e w2 ⟨rfl, hw2⟩
  subst w2
  go_wp2_with fail
  go_loopw [7] (fun i wr => ∃ k : Nat, k ≤ N + 1 ∧ i = .int .i64 ((x : Int) + k - 1) ∧ Hid (topI (pieceB S (tx s) x) (N + 1) = topI (pieceB S (tx s) x) k) ∧ Below W0.heap.size W0 wr) (fun i _ => (intOf i + 1 - x).toNat)
  case atStart => exact ⟨N + 1, Nat.le_refl _, by rw [show ((x : Int) + (N + 1 : Nat) - 1) = (s.size : Int) by omega], rfl, hb1⟩
  case round =>
    obtain ⟨k, hk, rfl, Htop, hB⟩ := hrel
    cases k with
    | zero =>
      go_wp2_with fail
      go_ret
      exact ⟨ret_int Htop.out.symm, HB0.out.trans (hB.mono HB0.out.size)⟩
    | succ k =>
      have e1 : (x : Int) + ((k + 1 : Nat) : Int) - 1 = ((x + k : Nat) : Int) := by omega
      rw [e1]
      have h1 : (x : Int) ≤ ((x + k : Nat) : Int) := by omega
      have h2 : ((x + k : Nat) : Int) ≤ (s.size : Int) := by omega
      obtain ⟨p0, p1, p2⟩ := HX.out wr hB
      have hBd : Below w.heap.size w wr.drew := HB0.out.trans (hB.mono HB0.out.size).drew
      have HC := H16.out k wr.drew (by omega) hBd
      have HC' : Hid (Calls Tryz.prog 43 #[.agg #[.int .i64 S.kind, .slice a n c, .slice a' m c'], .string (s.extract x (x + k))] wr.drew fun e w' => e = .returned (.bool (pieceB S (tx s) x k)) ∧ Below wr.drew.heap.size wr.drew w') := HC
      clear HC
      rcases Bool.eq_false_or_eq_true (pieceB S (tx s) x k) with hf | hf
      · have HR : Hid (topI (pieceB S (tx s) x) (N + 1) = (k : Int)) := by rw [Hid, Htop.out, topI_yes hf]
        rw [hf] at HC'
        clear hf
        go_wp2_with fail
        go_region_with (go_at_call 43; refine HC'.out.mono ?_; rintro e w3 ⟨rfl, hb3⟩)
        all_goals go_wp2_with fail
        all_goals
          go_ret
          exact ⟨ret_int (by rw [HR.out]; omega), HB0.out.trans ((hB.drew.trans (hb3.mono hB.drew.size)).mono HB0.out.size)⟩
      · have HN : Hid (topI (pieceB S (tx s) x) (N + 1) = topI (pieceB S (tx s) x) k) := by rw [Hid, Htop.out, topI_no hf]
        rw [hf] at HC'
        clear hf
        go_wp2_with fail
        go_region_with (go_at_call 43; refine HC'.out.mono ?_; rintro e w3 ⟨rfl, hb3⟩)
        all_goals go_wp2_with fail
        all_goals
          go_roundw
          case rel => exact ⟨k, by omega, rfl, HN.out, hB.drew.trans (hb3.mono hB.drew.size)⟩
          case measure => simp [intOf]; omega
end Go.Proofs.YtplpdikkkbiacaaGreatDoor

