/- the walk of l3Is, by the kinds -/
import Derived.Test.YtplpdikkkbiacaaGreatDoorMd
namespace Go.Proofs.YtplpdikkkbiacaaGreatDoor
open Go.RowKit
set_option linter.unusedVariables false
set_option linter.unusedSimpArgs false

theorem L3.mono {w w' : World} {v : Value} {f : List UInt8 → Bool} (h : L3 w v f) (hb : Below w.heap.size w w') : L3 w' v f := fun s w1 hs hb1 => h s w1 hs (hb.trans (hb1.mono hb.size))
theorem wrap_byte (b : UInt8) : IntKind.i64.wrap (b.toNat : Int) = (b.toNat : Int) := by
  have := b.toNat_lt
  rw [IntKind.wrap_i64]
  omega
theorem one_of {n : Nat} {L H : Nat → Int} {s : ByteArray} (h : s.size = 1) : oneB n L H (tx s) = hasB n L H ((s[0]'(by omega)).toNat : Int) := by
  have h0 := tx_get s 0 (by omega)
  have hl := tx_size s
  cases e : tx s with
  | nil => rw [e] at hl; simp only [List.length_nil] at hl; omega
  | cons b r =>
    cases r with
    | nil => rw [e] at h0; simp at h0; simp [oneB, h0]
    | cons _ _ => rw [e] at hl; simp at hl; omega
theorem one_not {n : Nat} {L H : Nat → Int} {s : ByteArray} (h : s.size ≠ 1) : oneB n L H (tx s) = false := by
  have hl := tx_size s
  cases e : tx s with
  | nil => rfl
  | cons b r =>
    cases r with
    | nil => rw [e] at hl; exact absurd hl h
    | cons _ _ => rfl
theorem empty_iff (s : ByteArray) : (tx s).isEmpty = decide (s.size = 0) := by
  rw [Bool.eq_iff_iff, List.isEmpty_iff, decide_eq_true_eq, tx_size]
  exact ⟨fun h => by rw [h]; rfl, fun h => List.eq_nil_of_length_eq_zero h⟩

set_option maxRecDepth 100000 in
set_option maxHeartbeats 2000000 in
theorem l3Is_1 (n : Nat) (L H : Nat → Int) (m : Nat) (K : Nat → Sh) (a : Option Addr) (b off cap : Nat) (a' : Option Addr) (cap' : Nat) (s : ByteArray) (hs : s.size ≤ 12) (w : World)
    (hga : 0 < n → a = some ⟨b, off, none⟩) (hc : Sp w b off n L H) (hn : n ≤ 1048576) :
    Calls Tryz.prog 43 #[.agg #[.int .i64 1, .slice a n cap, .slice a' m cap'], .string s] w fun e w' => e = .returned (.bool (lkB (.mk 1 n L H m K) (tx s))) ∧ Below w.heap.size w w' := by
  have hB0 : Below w.heap.size w (w.alloc (.cells #[.int .i64 1, .slice a n cap, .slice a' m cap'] 50)) := (Below.refl _ _).alloc (Nat.le_refl _) _
  by_cases h1 : s.size = 1
  · have h1z : ((s.size : Int) == 1) = true := by rw [h1]; rfl
    have h0 : 0 < s.size := by omega
    have h0z : (0 : Int) < (s.size : Int) := by omega
    have HR : Hid (lkB (.mk 1 n L H m K) (tx s) = hasB n L H ((s[0]'(by omega)).toNat : Int)) := by rw [Hid, lk_1, one_of h1]
    have HC : Hid (∀ x w1, Below w.heap.size w w1 → Calls Tryz.prog 56 #[.slice a n cap, .int .i64 x] w1 fun e w' => e = .returned (.bool (hasB n L H x)) ∧ w' = w1) := fun x w1 hb => specSetHas_any a b off cap n L H x w1 hga (hc.below hb) (by omega)
    have HBD : Hid (Below w.heap.size w (w.alloc (.cells #[.int .i64 1, .slice a n cap, .slice a' m cap'] 50)).drew) := hB0.drew
    clear hc hga
    go_enter Tryz.func43, Tryz.ntmps43
    go_wp2_with fail
    first
      | go_region_with (go_at_call 56; refine (HC.out _ _ HBD.out).mono ?_; rintro e w1 ⟨rfl, rfl⟩)
      | fail
    all_goals go_wp2_with fail
    all_goals
      go_ret
      exact ⟨ret_bool (by rw [HR.out, wrap_byte]), HBD.out⟩
  · have h1z : ((s.size : Int) == 1) = false := by simp; omega
    have HR : Hid (lkB (.mk 1 n L H m K) (tx s) = false) := by rw [Hid, lk_1, one_not h1]
    have HBD : Hid (Below w.heap.size w (w.alloc (.cells #[.int .i64 1, .slice a n cap, .slice a' m cap'] 50)).drew) := hB0.drew
    clear hc hga
    go_enter Tryz.func43, Tryz.ntmps43
    go_wp2_with fail
    first
      | go_region_with fail
      | fail
    all_goals go_wp2_with fail
    all_goals
      go_ret
      exact ⟨ret_bool HR.out.symm, HBD.out⟩

set_option maxRecDepth 100000 in
set_option maxHeartbeats 2000000 in
theorem l3Is_2 (n : Nat) (L H : Nat → Int) (m : Nat) (K : Nat → Sh) (a : Option Addr) (cap : Nat) (a' : Option Addr) (cap' : Nat) (s : ByteArray) (w : World) :
    Calls Tryz.prog 43 #[.agg #[.int .i64 2, .slice a n cap, .slice a' m cap'], .string s] w fun e w' => e = .returned (.bool (lkB (.mk 2 n L H m K) (tx s))) ∧ Below w.heap.size w w' := by
  have HR : Hid (lkB (.mk 2 n L H m K) (tx s) = decide (s.size = 0)) := by rw [Hid, lk_2, empty_iff]
  go_enter Tryz.func43, Tryz.ntmps43
  go_wp2_with fail
  go_ret
  refine ⟨ret_bool ?_, (Below.refl _ _).alloc (Nat.le_refl _) _⟩
  rw [HR.out, ByteArray.toList_eq]
  exact empty_iff s
set_option maxRecDepth 100000 in
set_option maxHeartbeats 2000000 in
theorem l3Is_3 (n : Nat) (a : Option Addr) (cap b' off' cap' : Nat) (s : ByteArray) (hs : s.size ≤ 12) (w : World)
    (k0 : Int) (a0 b0 : Option Addr) (n0 c0 m0 d0 : Nat) (f0 : List UInt8 → Bool) (x00 : w.cell? ⟨b', off', none⟩ = some (.int .i64 k0)) (x01 : w.cell? ⟨b', off' + 1, none⟩ = some (.slice a0 n0 c0)) (x02 : w.cell? ⟨b', off' + 2, none⟩ = some (.slice b0 m0 d0)) (H0 : Hid (L3 w (.agg #[.int .i64 k0, .slice a0 n0 c0, .slice b0 m0 d0]) f0))
    (k1 : Int) (a1 b1 : Option Addr) (n1 c1 m1 d1 : Nat) (f1 : List UInt8 → Bool) (x10 : w.cell? ⟨b', off' + 3, none⟩ = some (.int .i64 k1)) (x11 : w.cell? ⟨b', off' + 3 + 1, none⟩ = some (.slice a1 n1 c1)) (x12 : w.cell? ⟨b', off' + 3 + 2, none⟩ = some (.slice b1 m1 d1)) (H1 : Hid (L3 w (.agg #[.int .i64 k1, .slice a1 n1 c1, .slice b1 m1 d1]) f1)) :
    Calls Tryz.prog 43 #[.agg #[.int .i64 3, .slice a n cap, .slice (some ⟨b', off', none⟩) 2 cap'], .string s] w fun e w' => e = .returned (.bool (cutB f0 f1 (tx s))) ∧ Below w.heap.size w w' := by
  have hB0 : Below w.heap.size w (w.alloc (.cells #[.int .i64 3, .slice a n cap, .slice (some ⟨b', off', none⟩) 2 cap'] 50)) := (Below.refl _ _).alloc (Nat.le_refl _) _
  obtain ⟨W, hW⟩ : ∃ W, W = (w.alloc (.cells #[.int .i64 3, .slice a n cap, .slice (some ⟨b', off', none⟩) 2 cap'] 50)) := ⟨_, rfl⟩
  have hBW : Below w.heap.size w W := by rw [hW]; exact hB0
  have HW : Hid (W.cell? ⟨w.heap.size, 2, none⟩ = some (.slice (some ⟨b', off', none⟩) 2 cap')) := by rw [Hid, hW]; simp [go_sem]
  have hw2 := HW.out
  have W00 : W.cell? ⟨b', off', none⟩ = _ := (hBW.cell (p := ⟨b', _, none⟩) (World.block_lt_of_cell? _ _ x00)).trans x00
  have W01 : W.cell? ⟨b', off' + 1, none⟩ = _ := (hBW.cell (p := ⟨b', _, none⟩) (World.block_lt_of_cell? _ _ x01)).trans x01
  have W02 : W.cell? ⟨b', off' + 2, none⟩ = _ := (hBW.cell (p := ⟨b', _, none⟩) (World.block_lt_of_cell? _ _ x02)).trans x02
  have W10 : W.cell? ⟨b', off' + 3, none⟩ = _ := (hBW.cell (p := ⟨b', _, none⟩) (World.block_lt_of_cell? _ _ x10)).trans x10
  have W11 : W.cell? ⟨b', off' + 3 + 1, none⟩ = _ := (hBW.cell (p := ⟨b', _, none⟩) (World.block_lt_of_cell? _ _ x11)).trans x11
  have W12 : W.cell? ⟨b', off' + 3 + 2, none⟩ = _ := (hBW.cell (p := ⟨b', _, none⟩) (World.block_lt_of_cell? _ _ x12)).trans x12
  have HC : Hid (∀ W', Below W.heap.size W W' → Calls Tryz.prog 57 #[.agg #[.int .i64 k0, .slice a0 n0 c0, .slice b0 m0 d0], .agg #[.int .i64 k1, .slice a1 n1 c1, .slice b1 m1 d1], .string s] W' fun e w' => e = .returned (.bool (cutB f0 f1 (tx s))) ∧ Below W'.heap.size W' w') := fun W' hb =>
    l3Cat_any k0 k1 a0 b0 a1 b1 n0 c0 m0 d0 n1 c1 m1 d1 f0 f1 s hs W' (H0.out.mono (hBW.trans (hb.mono hBW.size))) (H1.out.mono (hBW.trans (hb.mono hBW.size)))
  clear hB0 x00 x01 x02 x10 x11 x12 H0 H1 HW
  go_enter Tryz.func43, Tryz.ntmps43
  go_wp2_with fail
  rw [← hW]
  clear hW
  first
    | go_region_with (go_at_call 57; refine (HC.out _ (Below.refl _ _).drew).mono ?_; rintro e w1 ⟨rfl, hb1⟩)
    | fail
  all_goals go_wp2_with fail
  all_goals
    go_ret
    exact ⟨rfl, hBW.drew.trans (hb1.mono hBW.drew.size)⟩

set_option maxRecDepth 100000 in
set_option maxHeartbeats 2000000 in
theorem l3Is_5 (n : Nat) (a : Option Addr) (cap b' off' cap' : Nat) (s : ByteArray) (hs : s.size ≤ 12) (w : World)
    (k0 : Int) (a0 b0 : Option Addr) (n0 c0 m0 d0 : Nat) (f0 : List UInt8 → Bool) (x00 : w.cell? ⟨b', off', none⟩ = some (.int .i64 k0)) (x01 : w.cell? ⟨b', off' + 1, none⟩ = some (.slice a0 n0 c0)) (x02 : w.cell? ⟨b', off' + 2, none⟩ = some (.slice b0 m0 d0)) (H0 : Hid (L3 w (.agg #[.int .i64 k0, .slice a0 n0 c0, .slice b0 m0 d0]) f0)) :
    Calls Tryz.prog 43 #[.agg #[.int .i64 5, .slice a n cap, .slice (some ⟨b', off', none⟩) 1 cap'], .string s] w fun e w' => e = .returned (.bool (starS f0 (tx s))) ∧ Below w.heap.size w w' := by
  have hB0 : Below w.heap.size w (w.alloc (.cells #[.int .i64 5, .slice a n cap, .slice (some ⟨b', off', none⟩) 1 cap'] 50)) := (Below.refl _ _).alloc (Nat.le_refl _) _
  have y00 : (w.alloc (.cells #[.int .i64 5, .slice a n cap, .slice (some ⟨b', off', none⟩) 1 cap'] 50)).cell? ⟨b', off', none⟩ = _ := (hB0.cell (p := ⟨b', _, none⟩) (World.block_lt_of_cell? _ _ x00)).trans x00
  have y01 : (w.alloc (.cells #[.int .i64 5, .slice a n cap, .slice (some ⟨b', off', none⟩) 1 cap'] 50)).cell? ⟨b', off' + 1, none⟩ = _ := (hB0.cell (p := ⟨b', _, none⟩) (World.block_lt_of_cell? _ _ x01)).trans x01
  have y02 : (w.alloc (.cells #[.int .i64 5, .slice a n cap, .slice (some ⟨b', off', none⟩) 1 cap'] 50)).cell? ⟨b', off' + 2, none⟩ = _ := (hB0.cell (p := ⟨b', _, none⟩) (World.block_lt_of_cell? _ _ x02)).trans x02
  have HC : Hid (Calls Tryz.prog 58 #[.agg #[.int .i64 k0, .slice a0 n0 c0, .slice b0 m0 d0], .string s] (w.alloc (.cells #[.int .i64 5, .slice a n cap, .slice (some ⟨b', off', none⟩) 1 cap'] 50)) fun e w' => e = .returned (.bool (starS f0 (tx s))) ∧ Below (w.alloc (.cells #[.int .i64 5, .slice a n cap, .slice (some ⟨b', off', none⟩) 1 cap'] 50)).heap.size (w.alloc (.cells #[.int .i64 5, .slice a n cap, .slice (some ⟨b', off', none⟩) 1 cap'] 50)) w') :=
    l3Star_any k0 a0 b0 n0 c0 m0 d0 f0 s hs _ (H0.out.mono hB0)
  clear x00 x01 x02 H0
  go_enter Tryz.func43, Tryz.ntmps43
  go_wp2_with fail
  refine HC.out.mono ?_
  rintro e w1 ⟨rfl, hb1⟩
  go_wp2_with fail
  go_ret
  exact ⟨rfl, hB0.trans (hb1.mono hB0.size)⟩

set_option maxRecDepth 100000 in
set_option maxHeartbeats 2000000 in
theorem l3Is_7 (n : Nat) (a : Option Addr) (cap b' off' cap' : Nat) (s : ByteArray) (hs : s.size ≤ 12) (w : World)
    (k0 : Int) (a0 b0 : Option Addr) (n0 c0 m0 d0 : Nat) (f0 : List UInt8 → Bool) (x00 : w.cell? ⟨b', off', none⟩ = some (.int .i64 k0)) (x01 : w.cell? ⟨b', off' + 1, none⟩ = some (.slice a0 n0 c0)) (x02 : w.cell? ⟨b', off' + 2, none⟩ = some (.slice b0 m0 d0)) (H0 : Hid (L3 w (.agg #[.int .i64 k0, .slice a0 n0 c0, .slice b0 m0 d0]) f0)) :
    Calls Tryz.prog 43 #[.agg #[.int .i64 7, .slice a n cap, .slice (some ⟨b', off', none⟩) 1 cap'], .string s] w fun e w' => e = .returned (.bool (!f0 (tx s))) ∧ Below w.heap.size w w' := by
  have hB0 : Below w.heap.size w (w.alloc (.cells #[.int .i64 7, .slice a n cap, .slice (some ⟨b', off', none⟩) 1 cap'] 50)) := (Below.refl _ _).alloc (Nat.le_refl _) _
  have y00 : (w.alloc (.cells #[.int .i64 7, .slice a n cap, .slice (some ⟨b', off', none⟩) 1 cap'] 50)).cell? ⟨b', off', none⟩ = _ := (hB0.cell (p := ⟨b', _, none⟩) (World.block_lt_of_cell? _ _ x00)).trans x00
  have y01 : (w.alloc (.cells #[.int .i64 7, .slice a n cap, .slice (some ⟨b', off', none⟩) 1 cap'] 50)).cell? ⟨b', off' + 1, none⟩ = _ := (hB0.cell (p := ⟨b', _, none⟩) (World.block_lt_of_cell? _ _ x01)).trans x01
  have y02 : (w.alloc (.cells #[.int .i64 7, .slice a n cap, .slice (some ⟨b', off', none⟩) 1 cap'] 50)).cell? ⟨b', off' + 2, none⟩ = _ := (hB0.cell (p := ⟨b', _, none⟩) (World.block_lt_of_cell? _ _ x02)).trans x02
  have HC : Hid (Calls Tryz.prog 43 #[.agg #[.int .i64 k0, .slice a0 n0 c0, .slice b0 m0 d0], .string s] (w.alloc (.cells #[.int .i64 7, .slice a n cap, .slice (some ⟨b', off', none⟩) 1 cap'] 50)) fun e w' => e = .returned (.bool (f0 (tx s))) ∧ Below (w.alloc (.cells #[.int .i64 7, .slice a n cap, .slice (some ⟨b', off', none⟩) 1 cap'] 50)).heap.size (w.alloc (.cells #[.int .i64 7, .slice a n cap, .slice (some ⟨b', off', none⟩) 1 cap'] 50)) w') := H0.out s _ hs hB0
  clear x00 x01 x02 H0
  go_enter Tryz.func43, Tryz.ntmps43
  go_wp2_with fail
  refine HC.out.mono ?_
  rintro e w1 ⟨rfl, hb1⟩
  go_wp2_with fail
  go_ret
  exact ⟨rfl, hB0.trans (hb1.mono hB0.size)⟩

set_option maxRecDepth 100000 in
set_option maxHeartbeats 2000000 in
theorem l3Is_4 (n : Nat) (a : Option Addr) (cap b' off' cap' : Nat) (s : ByteArray) (hs : s.size ≤ 12) (w : World)
    (k0 : Int) (a0 b0 : Option Addr) (n0 c0 m0 d0 : Nat) (f0 : List UInt8 → Bool) (x00 : w.cell? ⟨b', off', none⟩ = some (.int .i64 k0)) (x01 : w.cell? ⟨b', off' + 1, none⟩ = some (.slice a0 n0 c0)) (x02 : w.cell? ⟨b', off' + 2, none⟩ = some (.slice b0 m0 d0)) (H0 : Hid (L3 w (.agg #[.int .i64 k0, .slice a0 n0 c0, .slice b0 m0 d0]) f0))
    (k1 : Int) (a1 b1 : Option Addr) (n1 c1 m1 d1 : Nat) (f1 : List UInt8 → Bool) (x10 : w.cell? ⟨b', off' + 3, none⟩ = some (.int .i64 k1)) (x11 : w.cell? ⟨b', off' + 3 + 1, none⟩ = some (.slice a1 n1 c1)) (x12 : w.cell? ⟨b', off' + 3 + 2, none⟩ = some (.slice b1 m1 d1)) (H1 : Hid (L3 w (.agg #[.int .i64 k1, .slice a1 n1 c1, .slice b1 m1 d1]) f1)) :
    Calls Tryz.prog 43 #[.agg #[.int .i64 4, .slice a n cap, .slice (some ⟨b', off', none⟩) 2 cap'], .string s] w fun e w' => e = .returned (.bool ((f0 (tx s) || f1 (tx s)))) ∧ Below w.heap.size w w' := by
  have hB0 : Below w.heap.size w (w.alloc (.cells #[.int .i64 4, .slice a n cap, .slice (some ⟨b', off', none⟩) 2 cap'] 50)) := (Below.refl _ _).alloc (Nat.le_refl _) _
  have y00 : (w.alloc (.cells #[.int .i64 4, .slice a n cap, .slice (some ⟨b', off', none⟩) 2 cap'] 50)).cell? ⟨b', off', none⟩ = _ := (hB0.cell (p := ⟨b', _, none⟩) (World.block_lt_of_cell? _ _ x00)).trans x00
  have y01 : (w.alloc (.cells #[.int .i64 4, .slice a n cap, .slice (some ⟨b', off', none⟩) 2 cap'] 50)).cell? ⟨b', off' + 1, none⟩ = _ := (hB0.cell (p := ⟨b', _, none⟩) (World.block_lt_of_cell? _ _ x01)).trans x01
  have y02 : (w.alloc (.cells #[.int .i64 4, .slice a n cap, .slice (some ⟨b', off', none⟩) 2 cap'] 50)).cell? ⟨b', off' + 2, none⟩ = _ := (hB0.cell (p := ⟨b', _, none⟩) (World.block_lt_of_cell? _ _ x02)).trans x02
  have HC0 : Hid (Calls Tryz.prog 43 #[.agg #[.int .i64 k0, .slice a0 n0 c0, .slice b0 m0 d0], .string s] (w.alloc (.cells #[.int .i64 4, .slice a n cap, .slice (some ⟨b', off', none⟩) 2 cap'] 50)) fun e w' => e = .returned (.bool (f0 (tx s))) ∧ Below (w.alloc (.cells #[.int .i64 4, .slice a n cap, .slice (some ⟨b', off', none⟩) 2 cap'] 50)).heap.size (w.alloc (.cells #[.int .i64 4, .slice a n cap, .slice (some ⟨b', off', none⟩) 2 cap'] 50)) w') := H0.out s _ hs hB0
  have HX1 : Hid (w.cell? ⟨b', off' + 3, none⟩ = some (.int .i64 k1) ∧ w.cell? ⟨b', off' + 3 + 1, none⟩ = some (.slice a1 n1 c1) ∧ w.cell? ⟨b', off' + 3 + 2, none⟩ = some (.slice b1 m1 d1)) := ⟨x10, x11, x12⟩
  clear x00 x01 x02 H0 x10 x11 x12
  rcases Bool.eq_false_or_eq_true (f0 (tx s)) with hf | hf
  · have HR : Hid ((f0 (tx s) || f1 (tx s)) = true) := by rw [Hid, hf]; simp
    rw [hf] at HC0
    clear hf
    go_enter Tryz.func43, Tryz.ntmps43
    go_wp2_with fail
    refine HC0.out.mono ?_
    rintro e w1 ⟨rfl, hb1⟩
    go_wp2_with fail
    go_ret
    exact ⟨ret_bool HR.out.symm, hB0.trans (hb1.mono hB0.size)⟩
  · have HR : Hid ((f0 (tx s) || f1 (tx s)) = f1 (tx s)) := by rw [Hid, hf]; simp
    rw [hf] at HC0
    clear hf
    go_enter Tryz.func43, Tryz.ntmps43
    go_wp2_with fail
    refine HC0.out.mono ?_
    rintro e w1 ⟨rfl, hb1⟩
    have hB1 := hB0.trans (hb1.mono hB0.size)
    have r0 : w1.cell? ⟨w.heap.size, 2, none⟩ = some (.slice (some ⟨b', off', none⟩) 2 cap') := (hb1.cell (p := ⟨w.heap.size, 2, none⟩) (by simp)).trans (by simp [go_sem])
    obtain ⟨x10, x11, x12⟩ := HX1.out
    have e1 : w1.cell? ⟨b', off' + 3, none⟩ = _ := (hB1.cell (p := ⟨b', _, none⟩) (World.block_lt_of_cell? _ _ x10)).trans x10
    have e2 : w1.cell? ⟨b', off' + 3 + 1, none⟩ = _ := (hB1.cell (p := ⟨b', _, none⟩) (World.block_lt_of_cell? _ _ x11)).trans x11
    have e3 : w1.cell? ⟨b', off' + 3 + 2, none⟩ = _ := (hB1.cell (p := ⟨b', _, none⟩) (World.block_lt_of_cell? _ _ x12)).trans x12
    clear x10 x11 x12
    go_wp2_with fail
    refine (H1.out s _ hs hB1).mono ?_
    rintro e w2 ⟨rfl, hb2⟩
    go_wp2_with fail
    go_ret
    exact ⟨ret_bool HR.out.symm, hB1.trans (hb2.mono hB1.size)⟩

set_option maxRecDepth 100000 in
set_option maxHeartbeats 2000000 in
theorem l3Is_6 (n : Nat) (a : Option Addr) (cap b' off' cap' : Nat) (s : ByteArray) (hs : s.size ≤ 12) (w : World)
    (k0 : Int) (a0 b0 : Option Addr) (n0 c0 m0 d0 : Nat) (f0 : List UInt8 → Bool) (x00 : w.cell? ⟨b', off', none⟩ = some (.int .i64 k0)) (x01 : w.cell? ⟨b', off' + 1, none⟩ = some (.slice a0 n0 c0)) (x02 : w.cell? ⟨b', off' + 2, none⟩ = some (.slice b0 m0 d0)) (H0 : Hid (L3 w (.agg #[.int .i64 k0, .slice a0 n0 c0, .slice b0 m0 d0]) f0))
    (k1 : Int) (a1 b1 : Option Addr) (n1 c1 m1 d1 : Nat) (f1 : List UInt8 → Bool) (x10 : w.cell? ⟨b', off' + 3, none⟩ = some (.int .i64 k1)) (x11 : w.cell? ⟨b', off' + 3 + 1, none⟩ = some (.slice a1 n1 c1)) (x12 : w.cell? ⟨b', off' + 3 + 2, none⟩ = some (.slice b1 m1 d1)) (H1 : Hid (L3 w (.agg #[.int .i64 k1, .slice a1 n1 c1, .slice b1 m1 d1]) f1)) :
    Calls Tryz.prog 43 #[.agg #[.int .i64 6, .slice a n cap, .slice (some ⟨b', off', none⟩) 2 cap'], .string s] w fun e w' => e = .returned (.bool ((f0 (tx s) && f1 (tx s)))) ∧ Below w.heap.size w w' := by
  have hB0 : Below w.heap.size w (w.alloc (.cells #[.int .i64 6, .slice a n cap, .slice (some ⟨b', off', none⟩) 2 cap'] 50)) := (Below.refl _ _).alloc (Nat.le_refl _) _
  have y00 : (w.alloc (.cells #[.int .i64 6, .slice a n cap, .slice (some ⟨b', off', none⟩) 2 cap'] 50)).cell? ⟨b', off', none⟩ = _ := (hB0.cell (p := ⟨b', _, none⟩) (World.block_lt_of_cell? _ _ x00)).trans x00
  have y01 : (w.alloc (.cells #[.int .i64 6, .slice a n cap, .slice (some ⟨b', off', none⟩) 2 cap'] 50)).cell? ⟨b', off' + 1, none⟩ = _ := (hB0.cell (p := ⟨b', _, none⟩) (World.block_lt_of_cell? _ _ x01)).trans x01
  have y02 : (w.alloc (.cells #[.int .i64 6, .slice a n cap, .slice (some ⟨b', off', none⟩) 2 cap'] 50)).cell? ⟨b', off' + 2, none⟩ = _ := (hB0.cell (p := ⟨b', _, none⟩) (World.block_lt_of_cell? _ _ x02)).trans x02
  have HC0 : Hid (Calls Tryz.prog 43 #[.agg #[.int .i64 k0, .slice a0 n0 c0, .slice b0 m0 d0], .string s] (w.alloc (.cells #[.int .i64 6, .slice a n cap, .slice (some ⟨b', off', none⟩) 2 cap'] 50)) fun e w' => e = .returned (.bool (f0 (tx s))) ∧ Below (w.alloc (.cells #[.int .i64 6, .slice a n cap, .slice (some ⟨b', off', none⟩) 2 cap'] 50)).heap.size (w.alloc (.cells #[.int .i64 6, .slice a n cap, .slice (some ⟨b', off', none⟩) 2 cap'] 50)) w') := H0.out s _ hs hB0
  have HX1 : Hid (w.cell? ⟨b', off' + 3, none⟩ = some (.int .i64 k1) ∧ w.cell? ⟨b', off' + 3 + 1, none⟩ = some (.slice a1 n1 c1) ∧ w.cell? ⟨b', off' + 3 + 2, none⟩ = some (.slice b1 m1 d1)) := ⟨x10, x11, x12⟩
  clear x00 x01 x02 H0 x10 x11 x12
  rcases Bool.eq_false_or_eq_true (f0 (tx s)) with hf | hf
  · have HR : Hid ((f0 (tx s) && f1 (tx s)) = f1 (tx s)) := by rw [Hid, hf]; simp
    rw [hf] at HC0
    clear hf
    go_enter Tryz.func43, Tryz.ntmps43
    go_wp2_with fail
    refine HC0.out.mono ?_
    rintro e w1 ⟨rfl, hb1⟩
    have hB1 := hB0.trans (hb1.mono hB0.size)
    have r0 : w1.cell? ⟨w.heap.size, 2, none⟩ = some (.slice (some ⟨b', off', none⟩) 2 cap') := (hb1.cell (p := ⟨w.heap.size, 2, none⟩) (by simp)).trans (by simp [go_sem])
    obtain ⟨x10, x11, x12⟩ := HX1.out
    have e1 : w1.cell? ⟨b', off' + 3, none⟩ = _ := (hB1.cell (p := ⟨b', _, none⟩) (World.block_lt_of_cell? _ _ x10)).trans x10
    have e2 : w1.cell? ⟨b', off' + 3 + 1, none⟩ = _ := (hB1.cell (p := ⟨b', _, none⟩) (World.block_lt_of_cell? _ _ x11)).trans x11
    have e3 : w1.cell? ⟨b', off' + 3 + 2, none⟩ = _ := (hB1.cell (p := ⟨b', _, none⟩) (World.block_lt_of_cell? _ _ x12)).trans x12
    clear x10 x11 x12
    go_wp2_with fail
    refine (H1.out s _ hs hB1).mono ?_
    rintro e w2 ⟨rfl, hb2⟩
    go_wp2_with fail
    go_ret
    exact ⟨ret_bool HR.out.symm, hB1.trans (hb2.mono hB1.size)⟩
  · have HR : Hid ((f0 (tx s) && f1 (tx s)) = false) := by rw [Hid, hf]; simp
    rw [hf] at HC0
    clear hf
    go_enter Tryz.func43, Tryz.ntmps43
    go_wp2_with fail
    refine HC0.out.mono ?_
    rintro e w1 ⟨rfl, hb1⟩
    go_wp2_with fail
    go_ret
    exact ⟨ret_bool HR.out.symm, hB0.trans (hb1.mono hB0.size)⟩

end Go.Proofs.YtplpdikkkbiacaaGreatDoor

