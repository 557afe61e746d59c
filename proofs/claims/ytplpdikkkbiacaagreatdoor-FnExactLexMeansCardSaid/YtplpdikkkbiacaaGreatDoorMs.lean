/- the walk of the program's MatchLong -/
import Derived.Test.YtplpdikkkbiacaaGreatDoorMq
import Derived.Test.YtplpdikkkbiacaaGreatDoorMr
namespace Go.Proofs.YtplpdikkkbiacaaGreatDoor
open Go.RowKit
set_option linter.unusedVariables false
set_option linter.unusedSimpArgs false

theorem ends_top (S : Sh) (s : ByteArray) (x : Nat) (hs : s.size ≤ 12) (hx : x ≤ s.size) : topI (EB (tx (s.extract x s.size)) S 0) 13 = topI (pieceB S (tx s) x) (s.size - x + 1) := by
  have hl : (tx s).length = s.size := (tx_size s).symm
  rw [tx_tail, topI_more (n := s.size - x + 1) (m := 13) (by omega) (fun j hj => by simp [EB, hl]; omega)]
  refine topI_congr (fun j hj => ?_)
  have : decide (0 ≤ j ∧ j ≤ ((tx s).drop x).length) = true := decide_eq_true (by simp [hl]; omega)
  rw [EB, this]
  simp [pieceB]

set_option maxRecDepth 100000 in
set_option maxHeartbeats 2000000 in
theorem implMatchLong_no (S : Sh) (M : Mx) (s : ByteArray) (x : Int) (w : World) (t : TypeId) (ea : Addr) (hE : Err w t ea) (hin : In AnyB w S M) (hcnt : cnt S ≤ 1048576) (hno : NoWay S s x) :
    Calls Tryz.prog 37 #[vx S M, .string s, .int .i64 x] w fun e w' => e = .returned (.int .i64 (-1)) ∧ Below w.heap.size w w' := by
  obtain ⟨a, n, c, a', m, c', z1, z2⟩ := hin.slices
  have hv : vx S M = .agg #[.int .i64 S.kind, .slice a n c, .slice a' m c'] := by rw [vx, z1, z2]
  have hB0 : Below w.heap.size w (w.alloc (.cells #[.int .i64 S.kind, .slice a n c, .slice a' m c'] 50)) := (Below.refl _ _).alloc (Nat.le_refl _) _
  have H19 : Hid (Calls Tryz.prog 48 #[vx S M] (w.alloc (.cells #[.int .i64 S.kind, .slice a n c, .slice a' m c'] 50)) fun e w' => e = .returned (.bool (okR S)) ∧ Below (w.alloc (.cells #[.int .i64 S.kind, .slice a n c, .slice a' m c'] 50)).heap.size (w.alloc (.cells #[.int .i64 S.kind, .slice a n c, .slice a' m c'] 50)) w') := implRexOk_any S M _ t ea (hE.below hB0) (hin.below hB0) hcnt
  have H20 : Hid (∀ w1, Calls Tryz.prog 19 #[.string s] w1 fun e w' => e = .returned (.bool (decide ((s.size : Int) ≤ 12))) ∧ w' = w1) := implWord_any s
  rw [hv] at H19 ⊢
  clear hE hv hin z1 z2
  rcases hno with hok | ⟨hok, hs⟩ | ⟨hok, hs, hx⟩ | ⟨hok, hs, hx0, hx⟩
  · rw [hok] at H19
    clear hok
    go_enter Tryz.func37, Tryz.ntmps37
    go_wp2_with fail
    refine H19.out.mono ?_
    rintro e w1 ⟨rfl, hb1⟩
    go_wp2_with fail
    go_ret
    exact ⟨rfl, hB0.trans (hb1.mono hB0.size)⟩
  · rw [hok] at H19
    rw [show decide ((s.size : Int) ≤ 12) = false from decide_eq_false (by omega)] at H20
    clear hok
    go_enter Tryz.func37, Tryz.ntmps37
    go_wp2_with fail
    refine H19.out.mono ?_
    rintro e w1 ⟨rfl, hb1⟩
    go_wp2_with fail
    refine (H20.out _).mono ?_
    rintro e w2 ⟨rfl, hw2⟩
    subst w2
    go_wp2_with fail
    go_ret
    exact ⟨rfl, hB0.trans (hb1.mono hB0.size)⟩
  · rw [hok] at H19
    rw [show decide ((s.size : Int) ≤ 12) = true from decide_eq_true (by omega)] at H20
    clear hok
    go_enter Tryz.func37, Tryz.ntmps37
    go_wp2_with fail
    refine H19.out.mono ?_
    rintro e w1 ⟨rfl, hb1⟩
    go_wp2_with fail
    refine (H20.out _).mono ?_
    rintro e w2 ⟨rfl, hw2⟩
    subst w2
    go_wp2_with fail
    go_ret
    exact ⟨rfl, hB0.trans (hb1.mono hB0.size)⟩
  · rw [hok] at H19
    rw [show decide ((s.size : Int) ≤ 12) = true from decide_eq_true (by omega)] at H20
    have hx0' : decide (x < 0) = false := decide_eq_false (by omega)
    clear hok
    go_enter Tryz.func37, Tryz.ntmps37
    go_wp2_with fail
    refine H19.out.mono ?_
    rintro e w1 ⟨rfl, hb1⟩
    go_wp2_with fail
    refine (H20.out _).mono ?_
    rintro e w2 ⟨rfl, hw2⟩
    subst w2
    go_wp2_with fail
    go_ret
    exact ⟨rfl, hB0.trans (hb1.mono hB0.size)⟩

set_option maxRecDepth 100000 in
set_option maxHeartbeats 2000000 in
theorem implMatchLong_yes (S : Sh) (M : Mx) (s : ByteArray) (x : Nat) (w : World) (t : TypeId) (ea : Addr) (hE : Err w t ea) (hin : In AnyB w S M) (hcnt : cnt S ≤ 1048576) (hok : okR S = true) (hs : s.size ≤ 12) (hx : x ≤ s.size) :
    Calls Tryz.prog 37 #[vx S M, .string s, .int .i64 x] w fun e w' => e = .returned (.int .i64 (topI (pieceB S (tx s) x) (s.size - x + 1))) ∧ Below w.heap.size w w' := by
  obtain ⟨a, n, c, a', m, c', z1, z2⟩ := hin.slices
  have hv : vx S M = .agg #[.int .i64 S.kind, .slice a n c, .slice a' m c'] := by rw [vx, z1, z2]
  have hB0 : Below w.heap.size w (w.alloc (.cells #[.int .i64 S.kind, .slice a n c, .slice a' m c'] 50)) := (Below.refl _ _).alloc (Nat.le_refl _) _
  have H19 : Hid (Calls Tryz.prog 48 #[vx S M] (w.alloc (.cells #[.int .i64 S.kind, .slice a n c, .slice a' m c'] 50)) fun e w' => e = .returned (.bool (okR S)) ∧ Below (w.alloc (.cells #[.int .i64 S.kind, .slice a n c, .slice a' m c'] 50)).heap.size (w.alloc (.cells #[.int .i64 S.kind, .slice a n c, .slice a' m c'] 50)) w') := implRexOk_any S M _ t ea (hE.below hB0) (hin.below hB0) hcnt
  have H20 : Hid (∀ w1, Calls Tryz.prog 19 #[.string s] w1 fun e w' => e = .returned (.bool (decide ((s.size : Int) ≤ 12))) ∧ w' = w1) := implWord_any s
  have HX : Hid (∀ W, Below (w.alloc (.cells #[.int .i64 S.kind, .slice a n c, .slice a' m c'] 50)).heap.size (w.alloc (.cells #[.int .i64 S.kind, .slice a n c, .slice a' m c'] 50)) W → W.cell? ⟨w.heap.size, 0, none⟩ = some (.int .i64 S.kind) ∧ W.cell? ⟨w.heap.size, 1, none⟩ = some (.slice a n c) ∧ W.cell? ⟨w.heap.size, 2, none⟩ = some (.slice a' m c')) := fun W hb =>
    ⟨(hb.cell (p := ⟨_, _, none⟩) (by simp)).trans (by simp [go_sem]), (hb.cell (p := ⟨_, _, none⟩) (by simp)).trans (by simp [go_sem]), (hb.cell (p := ⟨_, _, none⟩) (by simp)).trans (by simp [go_sem])⟩
  have H21 : Hid (∀ w1, Below w.heap.size w w1 → Calls Tryz.prog 50 #[vx S M, .string (s.extract x s.size)] w1 fun e w' => e = .returned (.int .u16 (pw (EB (tx (s.extract x s.size)) S 0))) ∧ Below w1.heap.size w1 w') := fun w1 hb => endsOf_any S M (s.extract x s.size) (by simp; omega) 8 (okR_form hok) w1 (hin.below hb) hcnt
  have H25 : Hid (∀ w1, Calls Tryz.prog 51 #[.int .u16 (pw (EB (tx (s.extract x s.size)) S 0))] w1 fun e w' => e = .returned (.int .i64 (topI (pieceB S (tx s) x) (s.size - x + 1))) ∧ w' = w1) := fun w1 => by
    have h := last_any (EB (tx (s.extract x s.size)) S 0) w1
    rw [ends_top S s x hs hx] at h
    exact h
  obtain ⟨r, hr⟩ : ∃ r, r = topI (pieceB S (tx s) x) (s.size - x + 1) := ⟨_, rfl⟩
  rw [← hr] at H25 ⊢
  obtain ⟨P, hP⟩ : ∃ P, P = pw (EB (tx (s.extract x s.size)) S 0) := ⟨_, rfl⟩
  rw [← hP] at H25 H21
  rw [hok] at H19
  rw [show decide ((s.size : Int) ≤ 12) = true from decide_eq_true (by omega)] at H20
  rw [hv] at H19 H21 ⊢
  have hx0 : decide ((x : Int) < 0) = false := decide_eq_false (by omega)
  have hxs : ¬ ((s.size : Int) < (x : Int)) := by omega
  have hxt : (x : Int) ≤ (s.size : Int) := by omega
  clear hE hok hv hin z1 z2 hr hP
  go_enter Tryz.func37, Tryz.ntmps37
  go_wp2_with fail
  refine H19.out.mono ?_
  rintro e w1 ⟨rfl, hb1⟩
  go_wp2_with fail
  refine (H20.out _).mono ?_
  rintro e w2 ⟨rfl, hw2⟩
  subst w2
  obtain ⟨x0, x1, x2⟩ := HX.out w1 hb1
  have hB1 := hB0.trans (hb1.mono hB0.size)
  go_wp2_with fail
  go_region_with (first
    | (go_at_call 51; refine (H25.out _).mono ?_; rintro e w4 ⟨rfl, rfl⟩)
    | (go_at_call 50; refine (H21.out _ hB1.drew).mono ?_; rintro e w3 ⟨rfl, hb3⟩))
  all_goals go_wp2_with fail
  all_goals
    go_ret
    exact ⟨rfl, hB1.drew.trans (hb3.mono hB1.drew.size)⟩

theorem long_cases (S : Sh) (s : ByteArray) (x : Int) : NoWay S s x ∨ ∃ a : Nat, x = (a : Int) ∧ okR S = true ∧ s.size ≤ 12 ∧ a ≤ s.size := by
  rcases Bool.eq_false_or_eq_true (okR S) with hok | hok
  · by_cases hs : s.size ≤ 12
    · by_cases h0 : x < 0
      · exact .inl (.inr (.inr (.inl ⟨hok, hs, h0⟩)))
      · by_cases h1 : (s.size : Int) < x
        · exact .inl (.inr (.inr (.inr ⟨hok, hs, by omega, h1⟩)))
        · exact .inr ⟨x.toNat, by omega, hok, hs, by omega⟩
    · exact .inl (.inr (.inl ⟨hok, by omega⟩))
  · exact .inl (.inl hok)
theorem NoWay.long {S : Sh} {s : ByteArray} {x : Int} (h : NoWay S s x) : longR S s x = -1 := longR_no (fun ⟨h1, h2, h3, h4⟩ => by
  rcases h with h | ⟨_, h⟩ | ⟨_, _, h⟩ | ⟨_, _, _, h⟩
  · rw [h] at h1; cases h1
  · omega
  · omega
  · omega)
theorem specMatchLong_any (S : Sh) (M : Mx) (s : ByteArray) (x : Int) (w : World) (hin : In AnyB w S M) (hcnt : cnt S ≤ 1048576) :
    Calls Tryz.prog 31 #[vx S M, .string s, .int .i64 x] w fun e w' => e = .returned (.int .i64 (longR S s x)) ∧ Below w.heap.size w w' := by
  rcases long_cases S s x with h | ⟨a, rfl, hok, hs, ha⟩
  · rw [h.long]; exact specMatchLong_no S M s x w hin hcnt h
  · rw [longR_yes hok hs ha]; exact specMatchLong_yes S M s a w hin hcnt hok hs ha
theorem implMatchLong_any (S : Sh) (M : Mx) (s : ByteArray) (x : Int) (w : World) (t : TypeId) (ea : Addr) (hE : Err w t ea) (hin : In AnyB w S M) (hcnt : cnt S ≤ 1048576) :
    Calls Tryz.prog 37 #[vx S M, .string s, .int .i64 x] w fun e w' => e = .returned (.int .i64 (longR S s x)) ∧ Below w.heap.size w w' := by
  rcases long_cases S s x with h | ⟨a, rfl, hok, hs, ha⟩
  · rw [h.long]; exact implMatchLong_no S M s x w t ea hE hin hcnt h
  · rw [longR_yes hok hs ha]; exact implMatchLong_yes S M s a w t ea hE hin hcnt hok hs ha
end Go.Proofs.YtplpdikkkbiacaaGreatDoor

