/- the walks of l2Null, isNull and the two RexNull -/
import Derived.Test.YtbnllbhlmnkgcaaDoorTo
namespace Go.Proofs.YtbnllbhlmnkgcaaDoor
open Go.RowKit Go.Shelf
set_option linter.unusedVariables false
set_option linter.unusedSimpArgs false

/-- the empty text is like it -/
def nullR : Sh → Bool
  | .node kind _ _ _ m kids =>
    if kind = 2 ∨ kind = 5 then true
    else if kind = 3 ∨ kind = 6 then (if hi : 0 < m then nullR (kids ⟨0, hi⟩) else false) && (if hi : 1 < m then nullR (kids ⟨1, hi⟩) else false)
    else if kind = 4 then (if hi : 0 < m then nullR (kids ⟨0, hi⟩) else false) || (if hi : 1 < m then nullR (kids ⟨1, hi⟩) else false)
    else if kind = 7 then !(if hi : 0 < m then nullR (kids ⟨0, hi⟩) else false)
    else false
theorem null_1 (n : Nat) (L H : Nat → Int) (m : Nat) (K : Nat → Sh) : nullR (.mk 1 n L H m K) = false := by simp [Sh.mk, nullR]
theorem null_2 (n : Nat) (L H : Nat → Int) (m : Nat) (K : Nat → Sh) : nullR (.mk 2 n L H m K) = true := by simp [Sh.mk, nullR]
theorem null_5 (n : Nat) (L H : Nat → Int) (m : Nat) (K : Nat → Sh) : nullR (.mk 5 n L H m K) = true := by simp [Sh.mk, nullR]
theorem null_3 (n : Nat) (L H : Nat → Int) (K : Nat → Sh) : nullR (.mk 3 n L H 2 K) = (nullR (K 0) && nullR (K 1)) := by simp [Sh.mk, nullR]
theorem null_6 (n : Nat) (L H : Nat → Int) (K : Nat → Sh) : nullR (.mk 6 n L H 2 K) = (nullR (K 0) && nullR (K 1)) := by simp [Sh.mk, nullR]
theorem null_4 (n : Nat) (L H : Nat → Int) (K : Nat → Sh) : nullR (.mk 4 n L H 2 K) = (nullR (K 0) || nullR (K 1)) := by simp [Sh.mk, nullR]
theorem null_7 (n : Nat) (L H : Nat → Int) (K : Nat → Sh) : nullR (.mk 7 n L H 1 K) = !nullR (K 0) := by simp [Sh.mk, nullR]

/-- it is as it must be, and the empty text is like it -/
def isNullR (S : Sh) : Bool := okR S && nullR S

theorem good_kids {kind : Int} {n : Nat} {L H : Nat → Int} {m : Nat} (h : goodB kind n L H m = true) : kidsOf kind = (m : Int) := by
  simp only [goodB, Bool.and_eq_true, beq_iff_eq] at h
  exact h.1.1
theorem form_kid {d : Nat} {kind : Int} {n : Nat} {L H : Nat → Int} {m : Nat} {K : Nat → Sh} (h : formB (d + 1) (.mk kind n L H m K) = true) : goodB kind n L H m = true ∧ ∀ i, i < m → formB d (K i) = true := by
  simp only [formB_mk, Bool.and_eq_true, List.all_eq_true, List.mem_range] at h
  exact h

set_option maxRecDepth 100000 in
set_option maxHeartbeats 1000000 in
theorem l2Null_1 (n : Nat) (L H : Nat → Int) (K : Nat → Sh) (M : Nat → Mx) (a : Option Addr) (cap : Nat) (a' : Option Addr) (b' off' cap' : Nat) (w : World)
    (hga : (0 : Nat) < 0 → a' = some ⟨b', off', none⟩) (hk : ∀ i, i < 0 → Kid w b' (off' + i * 3) (K i) (M i))
    (ih : ∀ i, i < 0 → ∀ w1, Below w.heap.size w w1 → Calls Tryd.prog 89 #[vx (K i) (M i)] w1 fun e w' => e = .returned (.bool (nullR (K i))) ∧ Below w1.heap.size w1 w') :
    Calls Tryd.prog 89 #[.agg #[.int .i64 1, .slice a n cap, .slice a' 0 cap']] w fun e w' => e = .returned (.bool (nullR (.mk 1 n L H 0 K))) ∧ Below w.heap.size w w' := by
  have HR : Hid (nullR (.mk 1 n L H 0 K) = false) := null_1 n L H 0 K
  clear ih hk hga
  go_enter Tryd.func89, Tryd.ntmps89
  go_wp2_with fail
  go_ret
  exact ⟨ret_bool HR.out.symm, (Below.refl _ _).alloc (Nat.le_refl _) _⟩

set_option maxRecDepth 100000 in
set_option maxHeartbeats 1000000 in
theorem l2Null_2 (n : Nat) (L H : Nat → Int) (K : Nat → Sh) (M : Nat → Mx) (a : Option Addr) (cap : Nat) (a' : Option Addr) (b' off' cap' : Nat) (w : World)
    (hga : (0 : Nat) < 0 → a' = some ⟨b', off', none⟩) (hk : ∀ i, i < 0 → Kid w b' (off' + i * 3) (K i) (M i))
    (ih : ∀ i, i < 0 → ∀ w1, Below w.heap.size w w1 → Calls Tryd.prog 89 #[vx (K i) (M i)] w1 fun e w' => e = .returned (.bool (nullR (K i))) ∧ Below w1.heap.size w1 w') :
    Calls Tryd.prog 89 #[.agg #[.int .i64 2, .slice a n cap, .slice a' 0 cap']] w fun e w' => e = .returned (.bool (nullR (.mk 2 n L H 0 K))) ∧ Below w.heap.size w w' := by
  have HR : Hid (nullR (.mk 2 n L H 0 K) = true) := null_2 n L H 0 K
  clear ih hk hga
  go_enter Tryd.func89, Tryd.ntmps89
  go_wp2_with fail
  go_ret
  exact ⟨ret_bool HR.out.symm, (Below.refl _ _).alloc (Nat.le_refl _) _⟩

set_option maxRecDepth 100000 in
set_option maxHeartbeats 1000000 in
theorem l2Null_5 (n : Nat) (L H : Nat → Int) (K : Nat → Sh) (M : Nat → Mx) (a : Option Addr) (cap : Nat) (a' : Option Addr) (b' off' cap' : Nat) (w : World)
    (hga : (0 : Nat) < 1 → a' = some ⟨b', off', none⟩) (hk : ∀ i, i < 1 → Kid w b' (off' + i * 3) (K i) (M i))
    (ih : ∀ i, i < 1 → ∀ w1, Below w.heap.size w w1 → Calls Tryd.prog 89 #[vx (K i) (M i)] w1 fun e w' => e = .returned (.bool (nullR (K i))) ∧ Below w1.heap.size w1 w') :
    Calls Tryd.prog 89 #[.agg #[.int .i64 5, .slice a n cap, .slice a' 1 cap']] w fun e w' => e = .returned (.bool (nullR (.mk 5 n L H 1 K))) ∧ Below w.heap.size w w' := by
  have HR : Hid (nullR (.mk 5 n L H 1 K) = true) := null_5 n L H 1 K
  clear ih hk hga
  go_enter Tryd.func89, Tryd.ntmps89
  go_wp2_with fail
  go_ret
  exact ⟨ret_bool HR.out.symm, (Below.refl _ _).alloc (Nat.le_refl _) _⟩

set_option maxRecDepth 100000 in
set_option maxHeartbeats 1000000 in
theorem l2Null_3 (n : Nat) (L H : Nat → Int) (K : Nat → Sh) (M : Nat → Mx) (a : Option Addr) (cap : Nat) (a' : Option Addr) (b' off' cap' : Nat) (w : World)
    (hga : (0 : Nat) < 2 → a' = some ⟨b', off', none⟩) (hk : ∀ i, i < 2 → Kid w b' (off' + i * 3) (K i) (M i))
    (ih : ∀ i, i < 2 → ∀ w1, Below w.heap.size w w1 → Calls Tryd.prog 89 #[vx (K i) (M i)] w1 fun e w' => e = .returned (.bool (nullR (K i))) ∧ Below w1.heap.size w1 w') :
    Calls Tryd.prog 89 #[.agg #[.int .i64 3, .slice a n cap, .slice a' 2 cap']] w fun e w' => e = .returned (.bool (nullR (.mk 3 n L H 2 K))) ∧ Below w.heap.size w w' := by
  obtain rfl := hga (by omega)
  have hB0 : Below w.heap.size w (w.alloc (.cells #[.int .i64 3, .slice a n cap, .slice (some ⟨b', off', none⟩) 2 cap'] 26)) := (Below.refl _ _).alloc (Nat.le_refl _) _
  obtain ⟨c1, c2, c3⟩ := hk 0 (by omega)
  simp only [Nat.zero_mul, Nat.add_zero] at c1 c2 c3
  have d1 : (w.alloc (.cells #[.int .i64 3, .slice a n cap, .slice (some ⟨b', off', none⟩) 2 cap'] 26)).cell? ⟨b', off', none⟩ = _ := (hB0.cell (p := ⟨b', _, none⟩) (World.block_lt_of_cell? _ _ c1)).trans c1
  have d2 : (w.alloc (.cells #[.int .i64 3, .slice a n cap, .slice (some ⟨b', off', none⟩) 2 cap'] 26)).cell? ⟨b', off' + 1, none⟩ = _ := (hB0.cell (p := ⟨b', _, none⟩) (World.block_lt_of_cell? _ _ c2)).trans c2
  have d3 : (w.alloc (.cells #[.int .i64 3, .slice a n cap, .slice (some ⟨b', off', none⟩) 2 cap'] 26)).cell? ⟨b', off' + 2, none⟩ = _ := (hB0.cell (p := ⟨b', _, none⟩) (World.block_lt_of_cell? _ _ c3)).trans c3
  have H0 : Hid (∀ w1, Below w.heap.size w w1 → Calls Tryd.prog 89 #[vx (K 0) (M 0)] w1 fun e w' => e = .returned (.bool (nullR (K 0))) ∧ Below w1.heap.size w1 w') := ih 0 (by omega)
  have H1 : Hid (∀ w1, Below w.heap.size w w1 → Calls Tryd.prog 89 #[vx (K 1) (M 1)] w1 fun e w' => e = .returned (.bool (nullR (K 1))) ∧ Below w1.heap.size w1 w') := ih 1 (by omega)
  have HK1 : Hid (Kid w b' (off' + 3) (K 1) (M 1)) := by have := hk 1 (by omega); rw [Hid]; simpa using this
  have HR : Hid (nullR (.mk 3 n L H 2 K) = (nullR (K 0) && nullR (K 1))) := null_3 n L H K
  clear c1 c2 c3 ih hk hga
  by_cases hb : nullR (K 0) = true
  · rw [hb] at H0 HR
    clear hb
    go_enter Tryd.func89, Tryd.ntmps89
    go_wp2_with fail
    refine (H0.out _ hB0).mono ?_
    rintro e w1 ⟨rfl, hb1⟩
    have hB1 := hB0.trans (hb1.mono hB0.size)
    have r0 : w1.cell? ⟨w.heap.size, 2, none⟩ = some (.slice (some ⟨b', off', none⟩) 2 cap') := (hb1.cell (p := ⟨w.heap.size, 2, none⟩) (by simp)).trans (by simp [go_sem])
    obtain ⟨k1, k2, k3⟩ := HK1.out
    have e1 : w1.cell? ⟨b', off' + 3, none⟩ = _ := (hB1.cell (p := ⟨b', _, none⟩) (World.block_lt_of_cell? _ _ k1)).trans k1
    have e2 : w1.cell? ⟨b', off' + 3 + 1, none⟩ = _ := (hB1.cell (p := ⟨b', _, none⟩) (World.block_lt_of_cell? _ _ k2)).trans k2
    have e3 : w1.cell? ⟨b', off' + 3 + 2, none⟩ = _ := (hB1.cell (p := ⟨b', _, none⟩) (World.block_lt_of_cell? _ _ k3)).trans k3
    clear k1 k2 k3
    go_wp2_with fail
    refine (H1.out _ hB1).mono ?_
    rintro e w2 ⟨rfl, hb2⟩
    go_wp2_with fail
    go_ret
    exact ⟨ret_bool (by rw [HR.out]; simp), hB1.trans (hb2.mono hB1.size)⟩
  · have hb' : nullR (K 0) = false := by simpa using hb
    rw [hb'] at H0 HR
    clear hb hb'
    go_enter Tryd.func89, Tryd.ntmps89
    go_wp2_with fail
    refine (H0.out _ hB0).mono ?_
    rintro e w1 ⟨rfl, hb1⟩
    go_wp2_with fail
    go_ret
    exact ⟨ret_bool (by rw [HR.out]; simp), hB0.trans (hb1.mono hB0.size)⟩

set_option maxRecDepth 100000 in
set_option maxHeartbeats 1000000 in
theorem l2Null_6 (n : Nat) (L H : Nat → Int) (K : Nat → Sh) (M : Nat → Mx) (a : Option Addr) (cap : Nat) (a' : Option Addr) (b' off' cap' : Nat) (w : World)
    (hga : (0 : Nat) < 2 → a' = some ⟨b', off', none⟩) (hk : ∀ i, i < 2 → Kid w b' (off' + i * 3) (K i) (M i))
    (ih : ∀ i, i < 2 → ∀ w1, Below w.heap.size w w1 → Calls Tryd.prog 89 #[vx (K i) (M i)] w1 fun e w' => e = .returned (.bool (nullR (K i))) ∧ Below w1.heap.size w1 w') :
    Calls Tryd.prog 89 #[.agg #[.int .i64 6, .slice a n cap, .slice a' 2 cap']] w fun e w' => e = .returned (.bool (nullR (.mk 6 n L H 2 K))) ∧ Below w.heap.size w w' := by
  obtain rfl := hga (by omega)
  have hB0 : Below w.heap.size w (w.alloc (.cells #[.int .i64 6, .slice a n cap, .slice (some ⟨b', off', none⟩) 2 cap'] 26)) := (Below.refl _ _).alloc (Nat.le_refl _) _
  obtain ⟨c1, c2, c3⟩ := hk 0 (by omega)
  simp only [Nat.zero_mul, Nat.add_zero] at c1 c2 c3
  have d1 : (w.alloc (.cells #[.int .i64 6, .slice a n cap, .slice (some ⟨b', off', none⟩) 2 cap'] 26)).cell? ⟨b', off', none⟩ = _ := (hB0.cell (p := ⟨b', _, none⟩) (World.block_lt_of_cell? _ _ c1)).trans c1
  have d2 : (w.alloc (.cells #[.int .i64 6, .slice a n cap, .slice (some ⟨b', off', none⟩) 2 cap'] 26)).cell? ⟨b', off' + 1, none⟩ = _ := (hB0.cell (p := ⟨b', _, none⟩) (World.block_lt_of_cell? _ _ c2)).trans c2
  have d3 : (w.alloc (.cells #[.int .i64 6, .slice a n cap, .slice (some ⟨b', off', none⟩) 2 cap'] 26)).cell? ⟨b', off' + 2, none⟩ = _ := (hB0.cell (p := ⟨b', _, none⟩) (World.block_lt_of_cell? _ _ c3)).trans c3
  have H0 : Hid (∀ w1, Below w.heap.size w w1 → Calls Tryd.prog 89 #[vx (K 0) (M 0)] w1 fun e w' => e = .returned (.bool (nullR (K 0))) ∧ Below w1.heap.size w1 w') := ih 0 (by omega)
  have H1 : Hid (∀ w1, Below w.heap.size w w1 → Calls Tryd.prog 89 #[vx (K 1) (M 1)] w1 fun e w' => e = .returned (.bool (nullR (K 1))) ∧ Below w1.heap.size w1 w') := ih 1 (by omega)
  have HK1 : Hid (Kid w b' (off' + 3) (K 1) (M 1)) := by have := hk 1 (by omega); rw [Hid]; simpa using this
  have HR : Hid (nullR (.mk 6 n L H 2 K) = (nullR (K 0) && nullR (K 1))) := null_6 n L H K
  clear c1 c2 c3 ih hk hga
  by_cases hb : nullR (K 0) = true
  · rw [hb] at H0 HR
    clear hb
    go_enter Tryd.func89, Tryd.ntmps89
    go_wp2_with fail
    refine (H0.out _ hB0).mono ?_
    rintro e w1 ⟨rfl, hb1⟩
    have hB1 := hB0.trans (hb1.mono hB0.size)
    have r0 : w1.cell? ⟨w.heap.size, 2, none⟩ = some (.slice (some ⟨b', off', none⟩) 2 cap') := (hb1.cell (p := ⟨w.heap.size, 2, none⟩) (by simp)).trans (by simp [go_sem])
    obtain ⟨k1, k2, k3⟩ := HK1.out
    have e1 : w1.cell? ⟨b', off' + 3, none⟩ = _ := (hB1.cell (p := ⟨b', _, none⟩) (World.block_lt_of_cell? _ _ k1)).trans k1
    have e2 : w1.cell? ⟨b', off' + 3 + 1, none⟩ = _ := (hB1.cell (p := ⟨b', _, none⟩) (World.block_lt_of_cell? _ _ k2)).trans k2
    have e3 : w1.cell? ⟨b', off' + 3 + 2, none⟩ = _ := (hB1.cell (p := ⟨b', _, none⟩) (World.block_lt_of_cell? _ _ k3)).trans k3
    clear k1 k2 k3
    go_wp2_with fail
    refine (H1.out _ hB1).mono ?_
    rintro e w2 ⟨rfl, hb2⟩
    go_wp2_with fail
    go_ret
    exact ⟨ret_bool (by rw [HR.out]; simp), hB1.trans (hb2.mono hB1.size)⟩
  · have hb' : nullR (K 0) = false := by simpa using hb
    rw [hb'] at H0 HR
    clear hb hb'
    go_enter Tryd.func89, Tryd.ntmps89
    go_wp2_with fail
    refine (H0.out _ hB0).mono ?_
    rintro e w1 ⟨rfl, hb1⟩
    go_wp2_with fail
    go_ret
    exact ⟨ret_bool (by rw [HR.out]; simp), hB0.trans (hb1.mono hB0.size)⟩

set_option maxRecDepth 100000 in
set_option maxHeartbeats 1000000 in
theorem l2Null_4 (n : Nat) (L H : Nat → Int) (K : Nat → Sh) (M : Nat → Mx) (a : Option Addr) (cap : Nat) (a' : Option Addr) (b' off' cap' : Nat) (w : World)
    (hga : (0 : Nat) < 2 → a' = some ⟨b', off', none⟩) (hk : ∀ i, i < 2 → Kid w b' (off' + i * 3) (K i) (M i))
    (ih : ∀ i, i < 2 → ∀ w1, Below w.heap.size w w1 → Calls Tryd.prog 89 #[vx (K i) (M i)] w1 fun e w' => e = .returned (.bool (nullR (K i))) ∧ Below w1.heap.size w1 w') :
    Calls Tryd.prog 89 #[.agg #[.int .i64 4, .slice a n cap, .slice a' 2 cap']] w fun e w' => e = .returned (.bool (nullR (.mk 4 n L H 2 K))) ∧ Below w.heap.size w w' := by
  obtain rfl := hga (by omega)
  have hB0 : Below w.heap.size w (w.alloc (.cells #[.int .i64 4, .slice a n cap, .slice (some ⟨b', off', none⟩) 2 cap'] 26)) := (Below.refl _ _).alloc (Nat.le_refl _) _
  obtain ⟨c1, c2, c3⟩ := hk 0 (by omega)
  simp only [Nat.zero_mul, Nat.add_zero] at c1 c2 c3
  have d1 : (w.alloc (.cells #[.int .i64 4, .slice a n cap, .slice (some ⟨b', off', none⟩) 2 cap'] 26)).cell? ⟨b', off', none⟩ = _ := (hB0.cell (p := ⟨b', _, none⟩) (World.block_lt_of_cell? _ _ c1)).trans c1
  have d2 : (w.alloc (.cells #[.int .i64 4, .slice a n cap, .slice (some ⟨b', off', none⟩) 2 cap'] 26)).cell? ⟨b', off' + 1, none⟩ = _ := (hB0.cell (p := ⟨b', _, none⟩) (World.block_lt_of_cell? _ _ c2)).trans c2
  have d3 : (w.alloc (.cells #[.int .i64 4, .slice a n cap, .slice (some ⟨b', off', none⟩) 2 cap'] 26)).cell? ⟨b', off' + 2, none⟩ = _ := (hB0.cell (p := ⟨b', _, none⟩) (World.block_lt_of_cell? _ _ c3)).trans c3
  have H0 : Hid (∀ w1, Below w.heap.size w w1 → Calls Tryd.prog 89 #[vx (K 0) (M 0)] w1 fun e w' => e = .returned (.bool (nullR (K 0))) ∧ Below w1.heap.size w1 w') := ih 0 (by omega)
  have H1 : Hid (∀ w1, Below w.heap.size w w1 → Calls Tryd.prog 89 #[vx (K 1) (M 1)] w1 fun e w' => e = .returned (.bool (nullR (K 1))) ∧ Below w1.heap.size w1 w') := ih 1 (by omega)
  have HK1 : Hid (Kid w b' (off' + 3) (K 1) (M 1)) := by have := hk 1 (by omega); rw [Hid]; simpa using this
  have HR : Hid (nullR (.mk 4 n L H 2 K) = (nullR (K 0) || nullR (K 1))) := null_4 n L H K
  clear c1 c2 c3 ih hk hga
  by_cases hb : nullR (K 0) = false
  · rw [hb] at H0 HR
    clear hb
    go_enter Tryd.func89, Tryd.ntmps89
    go_wp2_with fail
    refine (H0.out _ hB0).mono ?_
    rintro e w1 ⟨rfl, hb1⟩
    have hB1 := hB0.trans (hb1.mono hB0.size)
    have r0 : w1.cell? ⟨w.heap.size, 2, none⟩ = some (.slice (some ⟨b', off', none⟩) 2 cap') := (hb1.cell (p := ⟨w.heap.size, 2, none⟩) (by simp)).trans (by simp [go_sem])
    obtain ⟨k1, k2, k3⟩ := HK1.out
    have e1 : w1.cell? ⟨b', off' + 3, none⟩ = _ := (hB1.cell (p := ⟨b', _, none⟩) (World.block_lt_of_cell? _ _ k1)).trans k1
    have e2 : w1.cell? ⟨b', off' + 3 + 1, none⟩ = _ := (hB1.cell (p := ⟨b', _, none⟩) (World.block_lt_of_cell? _ _ k2)).trans k2
    have e3 : w1.cell? ⟨b', off' + 3 + 2, none⟩ = _ := (hB1.cell (p := ⟨b', _, none⟩) (World.block_lt_of_cell? _ _ k3)).trans k3
    clear k1 k2 k3
    go_wp2_with fail
    refine (H1.out _ hB1).mono ?_
    rintro e w2 ⟨rfl, hb2⟩
    go_wp2_with fail
    go_ret
    exact ⟨ret_bool (by rw [HR.out]; simp), hB1.trans (hb2.mono hB1.size)⟩
  · have hb' : nullR (K 0) = true := by simpa using hb
    rw [hb'] at H0 HR
    clear hb hb'
    go_enter Tryd.func89, Tryd.ntmps89
    go_wp2_with fail
    refine (H0.out _ hB0).mono ?_
    rintro e w1 ⟨rfl, hb1⟩
    go_wp2_with fail
    go_ret
    exact ⟨ret_bool (by rw [HR.out]; simp), hB0.trans (hb1.mono hB0.size)⟩

set_option maxRecDepth 100000 in
set_option maxHeartbeats 1000000 in
theorem l2Null_7 (n : Nat) (L H : Nat → Int) (K : Nat → Sh) (M : Nat → Mx) (a : Option Addr) (cap : Nat) (a' : Option Addr) (b' off' cap' : Nat) (w : World)
    (hga : (0 : Nat) < 1 → a' = some ⟨b', off', none⟩) (hk : ∀ i, i < 1 → Kid w b' (off' + i * 3) (K i) (M i))
    (ih : ∀ i, i < 1 → ∀ w1, Below w.heap.size w w1 → Calls Tryd.prog 89 #[vx (K i) (M i)] w1 fun e w' => e = .returned (.bool (nullR (K i))) ∧ Below w1.heap.size w1 w') :
    Calls Tryd.prog 89 #[.agg #[.int .i64 7, .slice a n cap, .slice a' 1 cap']] w fun e w' => e = .returned (.bool (nullR (.mk 7 n L H 1 K))) ∧ Below w.heap.size w w' := by
  obtain rfl := hga (by omega)
  have hB0 : Below w.heap.size w (w.alloc (.cells #[.int .i64 7, .slice a n cap, .slice (some ⟨b', off', none⟩) 1 cap'] 26)) := (Below.refl _ _).alloc (Nat.le_refl _) _
  obtain ⟨c1, c2, c3⟩ := hk 0 (by omega)
  simp only [Nat.zero_mul, Nat.add_zero] at c1 c2 c3
  have d1 : (w.alloc (.cells #[.int .i64 7, .slice a n cap, .slice (some ⟨b', off', none⟩) 1 cap'] 26)).cell? ⟨b', off', none⟩ = _ := (hB0.cell (p := ⟨b', _, none⟩) (World.block_lt_of_cell? _ _ c1)).trans c1
  have d2 : (w.alloc (.cells #[.int .i64 7, .slice a n cap, .slice (some ⟨b', off', none⟩) 1 cap'] 26)).cell? ⟨b', off' + 1, none⟩ = _ := (hB0.cell (p := ⟨b', _, none⟩) (World.block_lt_of_cell? _ _ c2)).trans c2
  have d3 : (w.alloc (.cells #[.int .i64 7, .slice a n cap, .slice (some ⟨b', off', none⟩) 1 cap'] 26)).cell? ⟨b', off' + 2, none⟩ = _ := (hB0.cell (p := ⟨b', _, none⟩) (World.block_lt_of_cell? _ _ c3)).trans c3
  have H0 : Hid (∀ w1, Below w.heap.size w w1 → Calls Tryd.prog 89 #[vx (K 0) (M 0)] w1 fun e w' => e = .returned (.bool (nullR (K 0))) ∧ Below w1.heap.size w1 w') := ih 0 (by omega)
  have HR : Hid (nullR (.mk 7 n L H 1 K) = !nullR (K 0)) := null_7 n L H K
  clear c1 c2 c3 ih hk hga
  obtain ⟨x, HX⟩ : ∃ x, Hid (nullR (K 0) = x) := ⟨_, rfl⟩
  rw [HX.out] at H0 HR
  go_enter Tryd.func89, Tryd.ntmps89
  go_wp2_with fail
  refine (H0.out _ hB0).mono ?_
  rintro e w1 ⟨rfl, hb1⟩
  go_wp2_with fail
  go_ret
  exact ⟨ret_bool HR.out.symm, hB0.trans (hb1.mono hB0.size)⟩

theorem l2Null_any (S : Sh) : ∀ (M : Mx) (w : World) (d : Nat), In AnyB w S M → formB d S = true → Calls Tryd.prog 89 #[vx S M] w fun e w' => e = .returned (.bool (nullR S)) ∧ Below w.heap.size w w' := by
  induction S using Sh.ind with
  | h kind n L H m K ih =>
    intro M w d h hf
    cases d with
    | zero => simp [formB] at hf
    | succ d =>
      obtain ⟨sv, kv, M, rfl⟩ := Mx.cases M
      obtain ⟨a, b, off, cap, a', b', off', cap', e1, hn, hs, hl, e2, hm, hl', hk⟩ := h
      obtain rfl : sv = _ := e1
      obtain rfl : kv = _ := e2
      simp only [Mx.mk_kid] at hk
      obtain ⟨hg, hfk⟩ := form_kid hf
      have hkm := good_kids hg
      have hc : kidsOf kind ≠ -1 := by omega
      simp only [vx, Sh.mk_kind, Mx.mk_sv, Mx.mk_kv]
      have hh : ∀ i, i < m → ∀ w1, Below w.heap.size w w1 → Calls Tryd.prog 89 #[vx (K i) (M i)] w1 fun e w' => e = .returned (.bool (nullR (K i))) ∧ Below w1.heap.size w1 w' := fun i hi w1 hb => ih i hi (M i) w1 d ((hk i hi).2.below hb) (hfk i hi)
      have hkk : ∀ i, i < m → Kid w b' (off' + i * 3) (K i) (M i) := fun i hi => (hk i hi).1
      have hga : 0 < m → a' = some ⟨b', off', none⟩ := fun h => (hm h).1
      rcases kind_cases hc with rfl | rfl | rfl | rfl | rfl | rfl | rfl
      · obtain rfl : m = 0 := by have hz : kidsOf 1 = 0 := rfl; omega
        exact l2Null_1 n L H K M a cap a' b' off' cap' w hga hkk hh
      · obtain rfl : m = 0 := by have hz : kidsOf 2 = 0 := rfl; omega
        exact l2Null_2 n L H K M a cap a' b' off' cap' w hga hkk hh
      · obtain rfl : m = 2 := by have hz : kidsOf 3 = 2 := rfl; omega
        exact l2Null_3 n L H K M a cap a' b' off' cap' w hga hkk hh
      · obtain rfl : m = 2 := by have hz : kidsOf 4 = 2 := rfl; omega
        exact l2Null_4 n L H K M a cap a' b' off' cap' w hga hkk hh
      · obtain rfl : m = 1 := by have hz : kidsOf 5 = 1 := rfl; omega
        exact l2Null_5 n L H K M a cap a' b' off' cap' w hga hkk hh
      · obtain rfl : m = 2 := by have hz : kidsOf 6 = 2 := rfl; omega
        exact l2Null_6 n L H K M a cap a' b' off' cap' w hga hkk hh
      · obtain rfl : m = 1 := by have hz : kidsOf 7 = 1 := rfl; omega
        exact l2Null_7 n L H K M a cap a' b' off' cap' w hga hkk hh

set_option maxHeartbeats 1000000 in
theorem specRexNull_any (S : Sh) (M : Mx) (w : World) (h : In AnyB w S M) (hcnt : cnt S ≤ 1048576) :
    Calls Tryd.prog 36 #[vx S M] w fun e w' => e = .returned (.bool (isNullR S)) ∧ Below w.heap.size w w' := by
  have H1 : Hid (∀ w1, Below w.heap.size w w1 → Calls Tryd.prog 19 #[vx S M] w1 fun e w' => e = .returned (.bool (okR S)) ∧ Below w1.heap.size w1 w') := fun w1 hb => specRexOk_any S M w1 (h.below hb) hcnt
  by_cases hf : okR S = true
  · have h8 : formB 8 S = true := by have := hf; simp only [okR, Bool.and_eq_true] at this; exact this.1
    have H2 : Hid (∀ w1, Below w.heap.size w w1 → Calls Tryd.prog 89 #[vx S M] w1 fun e w' => e = .returned (.bool (nullR S)) ∧ Below w1.heap.size w1 w') := fun w1 hb => l2Null_any S M w1 8 (h.below hb) h8
    obtain ⟨a, n, c, a', m, c', hv⟩ := h.value
    rw [hv] at H1 H2 ⊢
    have hB0 : Below w.heap.size w (w.alloc (.cells #[.int .i64 S.kind, .slice a n c, .slice a' m c'] 26)) := (Below.refl _ _).alloc (Nat.le_refl _) _
    rw [hf] at H1
    have HR : Hid (isNullR S = nullR S) := by simp [Hid, isNullR, hf]
    clear hf hv h8
    go_enter Tryd.func36, Tryd.ntmps36
    go_wp2_with fail
    refine (H1.out _ hB0).mono ?_
    rintro e w1 ⟨rfl, hb1⟩
    have r0 : w1.cell? ⟨w.heap.size, 0, none⟩ = some (.int .i64 S.kind) := (hb1.cell (p := ⟨w.heap.size, 0, none⟩) (by simp)).trans (by simp [go_sem])
    have r1 : w1.cell? ⟨w.heap.size, 1, none⟩ = some (.slice a n c) := (hb1.cell (p := ⟨w.heap.size, 1, none⟩) (by simp)).trans (by simp [go_sem])
    have r2 : w1.cell? ⟨w.heap.size, 2, none⟩ = some (.slice a' m c') := (hb1.cell (p := ⟨w.heap.size, 2, none⟩) (by simp)).trans (by simp [go_sem])
    have hB1 := hB0.trans (hb1.mono hB0.size)
    go_wp2_with fail
    refine (H2.out _ hB1).mono ?_
    rintro e w2 ⟨rfl, hb2⟩
    go_wp2_with fail
    go_ret
    exact ⟨ret_bool HR.out.symm, hB1.trans (hb2.mono hB1.size)⟩
  · have hf' : okR S = false := Bool.eq_false_iff.2 hf
    obtain ⟨a, n, c, a', m, c', hv⟩ := h.value
    rw [hv] at H1 ⊢
    have hB0 : Below w.heap.size w (w.alloc (.cells #[.int .i64 S.kind, .slice a n c, .slice a' m c'] 26)) := (Below.refl _ _).alloc (Nat.le_refl _) _
    rw [hf'] at H1
    have HR : Hid (isNullR S = false) := by simp [Hid, isNullR, hf']
    clear hf hf' hv
    go_enter Tryd.func36, Tryd.ntmps36
    go_wp2_with fail
    refine (H1.out _ hB0).mono ?_
    rintro e w1 ⟨rfl, hb1⟩
    go_wp2_with fail
    go_ret
    exact ⟨ret_bool HR.out.symm, hB0.trans (hb1.mono hB0.size)⟩

end Go.Proofs.YtbnllbhlmnkgcaaDoor
