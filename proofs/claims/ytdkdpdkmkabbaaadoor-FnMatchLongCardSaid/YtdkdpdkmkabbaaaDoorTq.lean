/- the walks of isNull and of impl's RexNull -/
import Derived.Test.YtdkdpdkmkabbaaaDoorTp
namespace Go.Proofs.YtdkdpdkmkabbaaaDoor
open Go.RowKit Go.Shelf
set_option linter.unusedVariables false
set_option linter.unusedSimpArgs false
attribute [local go_sem] Oper.semAt_some

/-- the function that tells whether the empty text is like it -/
def nullF (k : Int) : FuncId := 80 - 4 + 4 * k.toNat
theorem meth_null (k : Int) (h : kidsOf k ≠ -1) (nm : String) (hn : nm = (Tryd.f25.body.bind invCode).getD "") (w : World) : (method 234 (kindT k) (.agg #[]) nm).run Tryd.prog w = .ok (nullF k, .agg #[]) w := by
  subst hn
  rcases kind_cases h with rfl | rfl | rfl | rfl | rfl | rfl | rfl
  all_goals kernel_rfl
theorem enter_null (k : Int) (h : kidsOf k ≠ -1) (args : Array Value) (w : World) : (callFunc (nullF k) args).run Tryd.prog w = .ok (.enter (nullF k) args) w := by
  rcases kind_cases h with rfl | rfl | rfl | rfl | rfl | rfl | rfl
  · exact enters_of Tryd.func80 (by kernel_rfl) rfl args w
  · exact enters_of Tryd.func84 (by kernel_rfl) rfl args w
  · exact enters_of Tryd.func88 (by kernel_rfl) rfl args w
  · exact enters_of Tryd.func92 (by kernel_rfl) rfl args w
  · exact enters_of Tryd.func96 (by kernel_rfl) rfl args w
  · exact enters_of Tryd.func100 (by kernel_rfl) rfl args w
  · exact enters_of Tryd.func104 (by kernel_rfl) rfl args w

set_option maxRecDepth 100000 in
set_option maxHeartbeats 1000000 in
theorem nullM_1 (n : Nat) (L H : Nat → Int) (K : Nat → Sh) (M : Nat → Mx) (a' : Option Addr) (b' off' cap' : Nat) (w : World)
    (hga : (0 : Nat) < 0 → a' = some ⟨b', off', none⟩) (hk : ∀ i, i < 0 → Kid w b' (off' + i * 3) (K i) (M i))
    (ih : ∀ i, i < 0 → ∀ w1, Below w.heap.size w w1 → Calls Tryd.prog 25 #[vx (K i) (M i)] w1 fun e w' => e = .returned (.bool (nullR (K i))) ∧ Below w1.heap.size w1 w') :
    Calls Tryd.prog 80 #[.agg #[], .slice a' 0 cap'] w fun e w' => e = .returned (.bool (nullR (.mk 1 n L H 0 K))) ∧ Below w.heap.size w w' := by
  have HR : Hid (nullR (.mk 1 n L H 0 K) = false) := null_1 n L H 0 K
  clear ih hk hga
  go_enter Tryd.func80, Tryd.ntmps80
  go_wp2_with fail
  go_ret
  exact ⟨ret_bool HR.out.symm, by repeat (first | exact Below.refl _ _ | refine Below.alloc ?_ (by simp <;> omega) _)⟩

set_option maxRecDepth 100000 in
set_option maxHeartbeats 1000000 in
theorem nullM_2 (n : Nat) (L H : Nat → Int) (K : Nat → Sh) (M : Nat → Mx) (a' : Option Addr) (b' off' cap' : Nat) (w : World)
    (hga : (0 : Nat) < 0 → a' = some ⟨b', off', none⟩) (hk : ∀ i, i < 0 → Kid w b' (off' + i * 3) (K i) (M i))
    (ih : ∀ i, i < 0 → ∀ w1, Below w.heap.size w w1 → Calls Tryd.prog 25 #[vx (K i) (M i)] w1 fun e w' => e = .returned (.bool (nullR (K i))) ∧ Below w1.heap.size w1 w') :
    Calls Tryd.prog 84 #[.agg #[], .slice a' 0 cap'] w fun e w' => e = .returned (.bool (nullR (.mk 2 n L H 0 K))) ∧ Below w.heap.size w w' := by
  have HR : Hid (nullR (.mk 2 n L H 0 K) = true) := null_2 n L H 0 K
  clear ih hk hga
  go_enter Tryd.func84, Tryd.ntmps84
  go_wp2_with fail
  go_ret
  exact ⟨ret_bool HR.out.symm, by repeat (first | exact Below.refl _ _ | refine Below.alloc ?_ (by simp <;> omega) _)⟩

set_option maxRecDepth 100000 in
set_option maxHeartbeats 1000000 in
theorem nullM_5 (n : Nat) (L H : Nat → Int) (K : Nat → Sh) (M : Nat → Mx) (a' : Option Addr) (b' off' cap' : Nat) (w : World)
    (hga : (0 : Nat) < 1 → a' = some ⟨b', off', none⟩) (hk : ∀ i, i < 1 → Kid w b' (off' + i * 3) (K i) (M i))
    (ih : ∀ i, i < 1 → ∀ w1, Below w.heap.size w w1 → Calls Tryd.prog 25 #[vx (K i) (M i)] w1 fun e w' => e = .returned (.bool (nullR (K i))) ∧ Below w1.heap.size w1 w') :
    Calls Tryd.prog 96 #[.agg #[], .slice a' 1 cap'] w fun e w' => e = .returned (.bool (nullR (.mk 5 n L H 1 K))) ∧ Below w.heap.size w w' := by
  have HR : Hid (nullR (.mk 5 n L H 1 K) = true) := null_5 n L H 1 K
  clear ih hk hga
  go_enter Tryd.func96, Tryd.ntmps96
  go_wp2_with fail
  go_ret
  exact ⟨ret_bool HR.out.symm, by repeat (first | exact Below.refl _ _ | refine Below.alloc ?_ (by simp <;> omega) _)⟩

set_option maxRecDepth 100000 in
set_option maxHeartbeats 1000000 in
theorem nullM_3 (n : Nat) (L H : Nat → Int) (K : Nat → Sh) (M : Nat → Mx) (a' : Option Addr) (b' off' cap' : Nat) (w : World)
    (hga : (0 : Nat) < 2 → a' = some ⟨b', off', none⟩) (hk : ∀ i, i < 2 → Kid w b' (off' + i * 3) (K i) (M i))
    (ih : ∀ i, i < 2 → ∀ w1, Below w.heap.size w w1 → Calls Tryd.prog 25 #[vx (K i) (M i)] w1 fun e w' => e = .returned (.bool (nullR (K i))) ∧ Below w1.heap.size w1 w') :
    Calls Tryd.prog 88 #[.agg #[], .slice a' 2 cap'] w fun e w' => e = .returned (.bool (nullR (.mk 3 n L H 2 K))) ∧ Below w.heap.size w w' := by
  obtain rfl := hga (by omega)
  have hB0 : Below w.heap.size w (w.alloc (.cells #[] 91)) := (Below.refl _ _).alloc (Nat.le_refl _) _
  obtain ⟨c1, c2, c3⟩ := hk 0 (by omega)
  simp only [Nat.zero_mul, Nat.add_zero] at c1 c2 c3
  have d1 : (w.alloc (.cells #[] 91)).cell? ⟨b', off', none⟩ = _ := (hB0.cell (p := ⟨b', _, none⟩) (World.block_lt_of_cell? _ _ c1)).trans c1
  have d2 : (w.alloc (.cells #[] 91)).cell? ⟨b', off' + 1, none⟩ = _ := (hB0.cell (p := ⟨b', _, none⟩) (World.block_lt_of_cell? _ _ c2)).trans c2
  have d3 : (w.alloc (.cells #[] 91)).cell? ⟨b', off' + 2, none⟩ = _ := (hB0.cell (p := ⟨b', _, none⟩) (World.block_lt_of_cell? _ _ c3)).trans c3
  have H0 : Hid (∀ w1, Below w.heap.size w w1 → Calls Tryd.prog 25 #[vx (K 0) (M 0)] w1 fun e w' => e = .returned (.bool (nullR (K 0))) ∧ Below w1.heap.size w1 w') := ih 0 (by omega)
  have H1 : Hid (∀ w1, Below w.heap.size w w1 → Calls Tryd.prog 25 #[vx (K 1) (M 1)] w1 fun e w' => e = .returned (.bool (nullR (K 1))) ∧ Below w1.heap.size w1 w') := ih 1 (by omega)
  have HK1 : Hid (Kid w b' (off' + 3) (K 1) (M 1)) := by have := hk 1 (by omega); rw [Hid]; simpa using this
  have HR : Hid (nullR (.mk 3 n L H 2 K) = (nullR (K 0) && nullR (K 1))) := null_3 n L H K
  clear c1 c2 c3 ih hk hga
  by_cases hb : nullR (K 0) = true
  · rw [hb] at H0 HR
    clear hb
    go_enter Tryd.func88, Tryd.ntmps88
    go_wp2_with fail
    refine (H0.out _ hB0).mono ?_
    rintro e w1 ⟨rfl, hb1⟩
    have hB1 := hB0.trans (hb1.mono hB0.size)
    obtain ⟨k1, k2, k3⟩ := HK1.out
    have e1 : w1.cell? ⟨b', off' + 3, none⟩ = _ := (hB1.cell (p := ⟨b', _, none⟩) (World.block_lt_of_cell? _ _ k1)).trans k1
    have e2 : w1.cell? ⟨b', off' + 3 + 1, none⟩ = _ := (hB1.cell (p := ⟨b', _, none⟩) (World.block_lt_of_cell? _ _ k2)).trans k2
    have e3 : w1.cell? ⟨b', off' + 3 + 2, none⟩ = _ := (hB1.cell (p := ⟨b', _, none⟩) (World.block_lt_of_cell? _ _ k3)).trans k3
    clear k1 k2 k3
    go_wp2_with fail
    refine (H1.out _ hB1).mono ?_
    rintro e w2 ⟨rfl, hb2⟩
    go_wp2_with fail
    go_ret
    exact ⟨ret_bool (by rw [HR.out]; simp), hB1.trans (hb2.mono hB1.size)⟩
  · have hb' : nullR (K 0) = false := by simpa using hb
    rw [hb'] at H0 HR
    clear hb hb'
    go_enter Tryd.func88, Tryd.ntmps88
    go_wp2_with fail
    refine (H0.out _ hB0).mono ?_
    rintro e w1 ⟨rfl, hb1⟩
    go_wp2_with fail
    go_ret
    exact ⟨ret_bool (by rw [HR.out]; simp), hB0.trans (hb1.mono hB0.size)⟩

set_option maxRecDepth 100000 in
set_option maxHeartbeats 1000000 in
theorem nullM_6 (n : Nat) (L H : Nat → Int) (K : Nat → Sh) (M : Nat → Mx) (a' : Option Addr) (b' off' cap' : Nat) (w : World)
    (hga : (0 : Nat) < 2 → a' = some ⟨b', off', none⟩) (hk : ∀ i, i < 2 → Kid w b' (off' + i * 3) (K i) (M i))
    (ih : ∀ i, i < 2 → ∀ w1, Below w.heap.size w w1 → Calls Tryd.prog 25 #[vx (K i) (M i)] w1 fun e w' => e = .returned (.bool (nullR (K i))) ∧ Below w1.heap.size w1 w') :
    Calls Tryd.prog 100 #[.agg #[], .slice a' 2 cap'] w fun e w' => e = .returned (.bool (nullR (.mk 6 n L H 2 K))) ∧ Below w.heap.size w w' := by
  obtain rfl := hga (by omega)
  have hB0 : Below w.heap.size w (w.alloc (.cells #[] 94)) := (Below.refl _ _).alloc (Nat.le_refl _) _
  obtain ⟨c1, c2, c3⟩ := hk 0 (by omega)
  simp only [Nat.zero_mul, Nat.add_zero] at c1 c2 c3
  have d1 : (w.alloc (.cells #[] 94)).cell? ⟨b', off', none⟩ = _ := (hB0.cell (p := ⟨b', _, none⟩) (World.block_lt_of_cell? _ _ c1)).trans c1
  have d2 : (w.alloc (.cells #[] 94)).cell? ⟨b', off' + 1, none⟩ = _ := (hB0.cell (p := ⟨b', _, none⟩) (World.block_lt_of_cell? _ _ c2)).trans c2
  have d3 : (w.alloc (.cells #[] 94)).cell? ⟨b', off' + 2, none⟩ = _ := (hB0.cell (p := ⟨b', _, none⟩) (World.block_lt_of_cell? _ _ c3)).trans c3
  have H0 : Hid (∀ w1, Below w.heap.size w w1 → Calls Tryd.prog 25 #[vx (K 0) (M 0)] w1 fun e w' => e = .returned (.bool (nullR (K 0))) ∧ Below w1.heap.size w1 w') := ih 0 (by omega)
  have H1 : Hid (∀ w1, Below w.heap.size w w1 → Calls Tryd.prog 25 #[vx (K 1) (M 1)] w1 fun e w' => e = .returned (.bool (nullR (K 1))) ∧ Below w1.heap.size w1 w') := ih 1 (by omega)
  have HK1 : Hid (Kid w b' (off' + 3) (K 1) (M 1)) := by have := hk 1 (by omega); rw [Hid]; simpa using this
  have HR : Hid (nullR (.mk 6 n L H 2 K) = (nullR (K 0) && nullR (K 1))) := null_6 n L H K
  clear c1 c2 c3 ih hk hga
  by_cases hb : nullR (K 0) = true
  · rw [hb] at H0 HR
    clear hb
    go_enter Tryd.func100, Tryd.ntmps100
    go_wp2_with fail
    refine (H0.out _ hB0).mono ?_
    rintro e w1 ⟨rfl, hb1⟩
    have hB1 := hB0.trans (hb1.mono hB0.size)
    obtain ⟨k1, k2, k3⟩ := HK1.out
    have e1 : w1.cell? ⟨b', off' + 3, none⟩ = _ := (hB1.cell (p := ⟨b', _, none⟩) (World.block_lt_of_cell? _ _ k1)).trans k1
    have e2 : w1.cell? ⟨b', off' + 3 + 1, none⟩ = _ := (hB1.cell (p := ⟨b', _, none⟩) (World.block_lt_of_cell? _ _ k2)).trans k2
    have e3 : w1.cell? ⟨b', off' + 3 + 2, none⟩ = _ := (hB1.cell (p := ⟨b', _, none⟩) (World.block_lt_of_cell? _ _ k3)).trans k3
    clear k1 k2 k3
    go_wp2_with fail
    refine (H1.out _ hB1).mono ?_
    rintro e w2 ⟨rfl, hb2⟩
    go_wp2_with fail
    go_ret
    exact ⟨ret_bool (by rw [HR.out]; simp), hB1.trans (hb2.mono hB1.size)⟩
  · have hb' : nullR (K 0) = false := by simpa using hb
    rw [hb'] at H0 HR
    clear hb hb'
    go_enter Tryd.func100, Tryd.ntmps100
    go_wp2_with fail
    refine (H0.out _ hB0).mono ?_
    rintro e w1 ⟨rfl, hb1⟩
    go_wp2_with fail
    go_ret
    exact ⟨ret_bool (by rw [HR.out]; simp), hB0.trans (hb1.mono hB0.size)⟩

set_option maxRecDepth 100000 in
set_option maxHeartbeats 1000000 in
theorem nullM_4 (n : Nat) (L H : Nat → Int) (K : Nat → Sh) (M : Nat → Mx) (a' : Option Addr) (b' off' cap' : Nat) (w : World)
    (hga : (0 : Nat) < 2 → a' = some ⟨b', off', none⟩) (hk : ∀ i, i < 2 → Kid w b' (off' + i * 3) (K i) (M i))
    (ih : ∀ i, i < 2 → ∀ w1, Below w.heap.size w w1 → Calls Tryd.prog 25 #[vx (K i) (M i)] w1 fun e w' => e = .returned (.bool (nullR (K i))) ∧ Below w1.heap.size w1 w') :
    Calls Tryd.prog 92 #[.agg #[], .slice a' 2 cap'] w fun e w' => e = .returned (.bool (nullR (.mk 4 n L H 2 K))) ∧ Below w.heap.size w w' := by
  obtain rfl := hga (by omega)
  have hB0 : Below w.heap.size w (w.alloc (.cells #[] 92)) := (Below.refl _ _).alloc (Nat.le_refl _) _
  obtain ⟨c1, c2, c3⟩ := hk 0 (by omega)
  simp only [Nat.zero_mul, Nat.add_zero] at c1 c2 c3
  have d1 : (w.alloc (.cells #[] 92)).cell? ⟨b', off', none⟩ = _ := (hB0.cell (p := ⟨b', _, none⟩) (World.block_lt_of_cell? _ _ c1)).trans c1
  have d2 : (w.alloc (.cells #[] 92)).cell? ⟨b', off' + 1, none⟩ = _ := (hB0.cell (p := ⟨b', _, none⟩) (World.block_lt_of_cell? _ _ c2)).trans c2
  have d3 : (w.alloc (.cells #[] 92)).cell? ⟨b', off' + 2, none⟩ = _ := (hB0.cell (p := ⟨b', _, none⟩) (World.block_lt_of_cell? _ _ c3)).trans c3
  have H0 : Hid (∀ w1, Below w.heap.size w w1 → Calls Tryd.prog 25 #[vx (K 0) (M 0)] w1 fun e w' => e = .returned (.bool (nullR (K 0))) ∧ Below w1.heap.size w1 w') := ih 0 (by omega)
  have H1 : Hid (∀ w1, Below w.heap.size w w1 → Calls Tryd.prog 25 #[vx (K 1) (M 1)] w1 fun e w' => e = .returned (.bool (nullR (K 1))) ∧ Below w1.heap.size w1 w') := ih 1 (by omega)
  have HK1 : Hid (Kid w b' (off' + 3) (K 1) (M 1)) := by have := hk 1 (by omega); rw [Hid]; simpa using this
  have HR : Hid (nullR (.mk 4 n L H 2 K) = (nullR (K 0) || nullR (K 1))) := null_4 n L H K
  clear c1 c2 c3 ih hk hga
  by_cases hb : nullR (K 0) = false
  · rw [hb] at H0 HR
    clear hb
    go_enter Tryd.func92, Tryd.ntmps92
    go_wp2_with fail
    refine (H0.out _ hB0).mono ?_
    rintro e w1 ⟨rfl, hb1⟩
    have hB1 := hB0.trans (hb1.mono hB0.size)
    obtain ⟨k1, k2, k3⟩ := HK1.out
    have e1 : w1.cell? ⟨b', off' + 3, none⟩ = _ := (hB1.cell (p := ⟨b', _, none⟩) (World.block_lt_of_cell? _ _ k1)).trans k1
    have e2 : w1.cell? ⟨b', off' + 3 + 1, none⟩ = _ := (hB1.cell (p := ⟨b', _, none⟩) (World.block_lt_of_cell? _ _ k2)).trans k2
    have e3 : w1.cell? ⟨b', off' + 3 + 2, none⟩ = _ := (hB1.cell (p := ⟨b', _, none⟩) (World.block_lt_of_cell? _ _ k3)).trans k3
    clear k1 k2 k3
    go_wp2_with fail
    refine (H1.out _ hB1).mono ?_
    rintro e w2 ⟨rfl, hb2⟩
    go_wp2_with fail
    go_ret
    exact ⟨ret_bool (by rw [HR.out]; simp), hB1.trans (hb2.mono hB1.size)⟩
  · have hb' : nullR (K 0) = true := by simpa using hb
    rw [hb'] at H0 HR
    clear hb hb'
    go_enter Tryd.func92, Tryd.ntmps92
    go_wp2_with fail
    refine (H0.out _ hB0).mono ?_
    rintro e w1 ⟨rfl, hb1⟩
    go_wp2_with fail
    go_ret
    exact ⟨ret_bool (by rw [HR.out]; simp), hB0.trans (hb1.mono hB0.size)⟩

set_option maxRecDepth 100000 in
set_option maxHeartbeats 1000000 in
theorem nullM_7 (n : Nat) (L H : Nat → Int) (K : Nat → Sh) (M : Nat → Mx) (a' : Option Addr) (b' off' cap' : Nat) (w : World)
    (hga : (0 : Nat) < 1 → a' = some ⟨b', off', none⟩) (hk : ∀ i, i < 1 → Kid w b' (off' + i * 3) (K i) (M i))
    (ih : ∀ i, i < 1 → ∀ w1, Below w.heap.size w w1 → Calls Tryd.prog 25 #[vx (K i) (M i)] w1 fun e w' => e = .returned (.bool (nullR (K i))) ∧ Below w1.heap.size w1 w') :
    Calls Tryd.prog 104 #[.agg #[], .slice a' 1 cap'] w fun e w' => e = .returned (.bool (nullR (.mk 7 n L H 1 K))) ∧ Below w.heap.size w w' := by
  obtain rfl := hga (by omega)
  have hB0 : Below w.heap.size w (w.alloc (.cells #[] 95)) := (Below.refl _ _).alloc (Nat.le_refl _) _
  obtain ⟨c1, c2, c3⟩ := hk 0 (by omega)
  simp only [Nat.zero_mul, Nat.add_zero] at c1 c2 c3
  have d1 : (w.alloc (.cells #[] 95)).cell? ⟨b', off', none⟩ = _ := (hB0.cell (p := ⟨b', _, none⟩) (World.block_lt_of_cell? _ _ c1)).trans c1
  have d2 : (w.alloc (.cells #[] 95)).cell? ⟨b', off' + 1, none⟩ = _ := (hB0.cell (p := ⟨b', _, none⟩) (World.block_lt_of_cell? _ _ c2)).trans c2
  have d3 : (w.alloc (.cells #[] 95)).cell? ⟨b', off' + 2, none⟩ = _ := (hB0.cell (p := ⟨b', _, none⟩) (World.block_lt_of_cell? _ _ c3)).trans c3
  have H0 : Hid (∀ w1, Below w.heap.size w w1 → Calls Tryd.prog 25 #[vx (K 0) (M 0)] w1 fun e w' => e = .returned (.bool (nullR (K 0))) ∧ Below w1.heap.size w1 w') := ih 0 (by omega)
  have HR : Hid (nullR (.mk 7 n L H 1 K) = !nullR (K 0)) := null_7 n L H K
  clear c1 c2 c3 ih hk hga
  obtain ⟨x, HX⟩ : ∃ x, Hid (nullR (K 0) = x) := ⟨_, rfl⟩
  rw [HX.out] at H0 HR
  go_enter Tryd.func104, Tryd.ntmps104
  go_wp2_with fail
  refine (H0.out _ hB0).mono ?_
  rintro e w1 ⟨rfl, hb1⟩
  go_wp2_with fail
  go_ret
  exact ⟨ret_bool HR.out.symm, hB0.trans (hb1.mono hB0.size)⟩

set_option maxRecDepth 100000 in
set_option maxHeartbeats 2000000 in
theorem isNull_any (S : Sh) : ∀ (M : Mx) (w : World) (d : Nat), In AnyB w S M → formB d S = true → Calls Tryd.prog 25 #[vx S M] w fun e w' => e = .returned (.bool (nullR S)) ∧ Below w.heap.size w w' := by
  induction S using Sh.ind with
  | h kind n L H m K ih =>
    intro M w d h hf
    cases d with
    | zero => simp [formB] at hf
    | succ d =>
      obtain ⟨sv, kv, M, rfl⟩ := Mx.cases M
      obtain ⟨a, b, off, cap, a', b', off', cap', e1, hn, hs, hl, e2, hm, hl', hk⟩ := h
      obtain rfl : sv = _ := e1
      obtain rfl : kv = _ := e2
      simp only [Mx.mk_kid] at hk
      obtain ⟨hg, hfk⟩ := form_kidN hf
      have hkm := good_kidsN hg
      have hc : kidsOf kind ≠ -1 := by omega
      simp only [vx, Sh.mk_kind, Mx.mk_sv, Mx.mk_kv]
      have HN : Hid (∀ w0, Below w.heap.size w w0 → Calls Tryd.prog (nullF kind) #[.agg #[], .slice a' m cap'] w0 fun e w' => e = .returned (.bool (nullR (.mk kind n L H m K))) ∧ Below w0.heap.size w0 w') := fun w0 hb0 => by
        have hh : ∀ i, i < m → ∀ w1, Below w0.heap.size w0 w1 → Calls Tryd.prog 25 #[vx (K i) (M i)] w1 fun e w' => e = .returned (.bool (nullR (K i))) ∧ Below w1.heap.size w1 w' := fun i hi w1 hb => ih i hi (M i) w1 d (((hk i hi).2.below hb0).below hb) (hfk i hi)
        have hkk : ∀ i, i < m → Kid w0 b' (off' + i * 3) (K i) (M i) := fun i hi => (hk i hi).1.keep (fun h => hb0.block _ h)
        have hga : 0 < m → a' = some ⟨b', off', none⟩ := fun h => (hm h).1
        rcases kind_cases hc with rfl | rfl | rfl | rfl | rfl | rfl | rfl
        · obtain rfl : m = 0 := by have hz : kidsOf 1 = 0 := rfl; omega
          exact nullM_1 n L H K M a' b' off' cap' w0 hga hkk hh
        · obtain rfl : m = 0 := by have hz : kidsOf 2 = 0 := rfl; omega
          exact nullM_2 n L H K M a' b' off' cap' w0 hga hkk hh
        · obtain rfl : m = 2 := by have hz : kidsOf 3 = 2 := rfl; omega
          exact nullM_3 n L H K M a' b' off' cap' w0 hga hkk hh
        · obtain rfl : m = 2 := by have hz : kidsOf 4 = 2 := rfl; omega
          exact nullM_4 n L H K M a' b' off' cap' w0 hga hkk hh
        · obtain rfl : m = 1 := by have hz : kidsOf 5 = 1 := rfl; omega
          exact nullM_5 n L H K M a' b' off' cap' w0 hga hkk hh
        · obtain rfl : m = 2 := by have hz : kidsOf 6 = 2 := rfl; omega
          exact nullM_6 n L H K M a' b' off' cap' w0 hga hkk hh
        · obtain rfl : m = 1 := by have hz : kidsOf 7 = 1 := rfl; omega
          exact nullM_7 n L H K M a' b' off' cap' w0 hga hkk hh
      have HKO : Hid (∀ w, Calls Tryd.prog 43 #[.int .i64 kind] w fun e w' => e = .returned (.iface (kindT kind) (.agg #[])) ∧ w' = w) := kindOf_ok kind hc
      have hB0 : Below w.heap.size w (w.alloc (.cells #[.int .i64 kind, .slice a n cap, .slice a' m cap'] 26)) := (Below.refl _ _).alloc (Nat.le_refl _) _
      obtain ⟨nr, HNR⟩ : ∃ nr, Hid (nullR (.mk kind n L H m K) = nr) := ⟨_, rfl⟩
      rw [HNR.out] at HN ⊢
      clear ih hk hfk hg hf hm hn hs
      refine (callsIn_wide (n := 0)).1 ?_
      refine callsIn_of_wp Tryd.func25 rfl trivial ?_
      simp only [Tryd.ntmps25, List.size_toArray, List.length_cons, List.length_nil, Nat.reduceAdd, Nat.reduceSub, Array.replicate_succ, Array.replicate_zero, List.push_toArray, List.append_toArray, List.nil_append, List.cons_append]
      gi_wp2_with fail
      have hmix : Tryd.prog.follows .mixedOrders = true := by kernel_rfl
      refine wpIn_region_any hmix ?_
      change wpAnyIn _ _ _ _ _ _ _ _ _ (World.drew _)
      refine wpAnyIn_take (i := 0) (v := .pointer (some ⟨w.heap.size, 0, none⟩)) rfl rfl (by kernel_rfl) (by kernel_rfl) (by kernel_rfl) (fun _ _ _ h => h) ⟨Or.inl ⟨by rfl, fun w => by go_simp⟩, fun _ => rfl⟩ ?_
      refine wpAnyIn_take (i := 3) (v := .pointer (some ⟨w.heap.size, 2, none⟩)) rfl rfl (by kernel_rfl) (by kernel_rfl) (by kernel_rfl) (fun _ _ _ h => h) ⟨Or.inl ⟨by rfl, fun w => by go_simp⟩, fun _ => rfl⟩ ?_
      refine wpAnyIn_ready (rs := [1, 4]) (by kernel_rfl) (by simp) (AllReadyIn.cons rfl (fun K hK => ?_) (AllReadyIn.cons rfl (fun K hK => ?_) AllReadyIn.nil))
      · go_simp
        refine hK _ _ ?_
        clear hK K
        refine wpAnyIn_ready (rs := [2, 4]) (by kernel_rfl) (by simp) (AllReadyIn.cons rfl (fun K hK => ?_) (AllReadyIn.cons rfl (fun K hK => ?_) AllReadyIn.nil))
        · go_simp
          refine ⟨trivial, rfl, ((callsIn_wide (n := 0)).2 (HKO.out _)).mono ?_⟩
          rintro e w4 ⟨rfl, rfl⟩
          refine hK _ _ ?_
          clear hK K
          refine wpAnyIn_ready (rs := [4]) (by kernel_rfl) (by simp) (AllReadyIn.cons rfl (fun K hK => ?_) AllReadyIn.nil)
          go_simp
          refine hK _ _ ?_
          clear hK K
          refine wpAnyIn_ready (rs := [5]) (by kernel_rfl) (by simp) (AllReadyIn.cons rfl (fun K hK => ?_) AllReadyIn.nil)
          go_simp
          rw [meth_null kind hc _ ?nm]
          case nm => kernel_rfl
          refine ⟨fun _ _ => trivial, ?_⟩
          simp only [Result.andThen]
          rw [enter_null kind hc]
          refine ⟨fun h => (by cases h), ((callsIn_wide (n := 0)).2 (HN.out _ hB0.drew)).mono ?_⟩
          rintro e w6 ⟨rfl, hb6⟩
          refine hK _ _ ?_
          clear hK K
          refine wpAnyIn_ready (rs := [6]) (by kernel_rfl) (by simp) (AllReadyIn.cons rfl (fun K hK => ?_) AllReadyIn.nil)
          go_simp
          refine hK _ _ ?_
          clear hK K
          refine wpAnyIn_done (by kernel_rfl) ?_ _
          gi_wp2_with fail
          go_ret
          exact ⟨rfl, hB0.drew.trans (hb6.mono hB0.size)⟩
        · go_simp
          refine hK _ _ ?_
          clear hK K
          refine wpAnyIn_ready (rs := [2]) (by kernel_rfl) (by simp) (AllReadyIn.cons rfl (fun K hK => ?_) AllReadyIn.nil)
          go_simp
          refine ⟨trivial, rfl, ((callsIn_wide (n := 0)).2 (HKO.out _)).mono ?_⟩
          rintro e w4 ⟨rfl, rfl⟩
          refine hK _ _ ?_
          clear hK K
          refine wpAnyIn_ready (rs := [5]) (by kernel_rfl) (by simp) (AllReadyIn.cons rfl (fun K hK => ?_) AllReadyIn.nil)
          go_simp
          rw [meth_null kind hc _ ?nm]
          case nm => kernel_rfl
          refine ⟨fun _ _ => trivial, ?_⟩
          simp only [Result.andThen]
          rw [enter_null kind hc]
          refine ⟨fun h => (by cases h), ((callsIn_wide (n := 0)).2 (HN.out _ hB0.drew)).mono ?_⟩
          rintro e w6 ⟨rfl, hb6⟩
          refine hK _ _ ?_
          clear hK K
          refine wpAnyIn_ready (rs := [6]) (by kernel_rfl) (by simp) (AllReadyIn.cons rfl (fun K hK => ?_) AllReadyIn.nil)
          go_simp
          refine hK _ _ ?_
          clear hK K
          refine wpAnyIn_done (by kernel_rfl) ?_ _
          gi_wp2_with fail
          go_ret
          exact ⟨rfl, hB0.drew.trans (hb6.mono hB0.size)⟩
      · go_simp
        refine hK _ _ ?_
        clear hK K
        refine wpAnyIn_ready (rs := [1]) (by kernel_rfl) (by simp) (AllReadyIn.cons rfl (fun K hK => ?_) AllReadyIn.nil)
        go_simp
        refine hK _ _ ?_
        clear hK K
        refine wpAnyIn_ready (rs := [2]) (by kernel_rfl) (by simp) (AllReadyIn.cons rfl (fun K hK => ?_) AllReadyIn.nil)
        go_simp
        refine ⟨trivial, rfl, ((callsIn_wide (n := 0)).2 (HKO.out _)).mono ?_⟩
        rintro e w4 ⟨rfl, rfl⟩
        refine hK _ _ ?_
        clear hK K
        refine wpAnyIn_ready (rs := [5]) (by kernel_rfl) (by simp) (AllReadyIn.cons rfl (fun K hK => ?_) AllReadyIn.nil)
        go_simp
        rw [meth_null kind hc _ ?nm]
        case nm => kernel_rfl
        refine ⟨fun _ _ => trivial, ?_⟩
        simp only [Result.andThen]
        rw [enter_null kind hc]
        refine ⟨fun h => (by cases h), ((callsIn_wide (n := 0)).2 (HN.out _ hB0.drew)).mono ?_⟩
        rintro e w6 ⟨rfl, hb6⟩
        refine hK _ _ ?_
        clear hK K
        refine wpAnyIn_ready (rs := [6]) (by kernel_rfl) (by simp) (AllReadyIn.cons rfl (fun K hK => ?_) AllReadyIn.nil)
        go_simp
        refine hK _ _ ?_
        clear hK K
        refine wpAnyIn_done (by kernel_rfl) ?_ _
        gi_wp2_with fail
        go_ret
        exact ⟨rfl, hB0.drew.trans (hb6.mono hB0.size)⟩

set_option maxHeartbeats 1000000 in
theorem implRexNull_any (S : Sh) (M : Mx) (w : World) (t : TypeId) (ea : Addr) (hE : Err w t ea) (h : In AnyB w S M) (hcnt : cnt S ≤ 1048576) :
    Calls Tryd.prog 10 #[vx S M] w fun e w' => e = .returned (.bool (isNullR S)) ∧ Below w.heap.size w w' := by
  have H1 : Hid (∀ w1, Below w.heap.size w w1 → Calls Tryd.prog 16 #[vx S M] w1 fun e w' => e = .returned (.bool (okR S)) ∧ Below w1.heap.size w1 w') := fun w1 hb => implRexOk_any S M w1 t ea (hE.below hb) (h.below hb) hcnt
  by_cases hf : okR S = true
  · have h8 : formB 8 S = true := by have := hf; simp only [okR, Bool.and_eq_true] at this; exact this.1
    have H2 : Hid (∀ w1, Below w.heap.size w w1 → Calls Tryd.prog 25 #[vx S M] w1 fun e w' => e = .returned (.bool (nullR S)) ∧ Below w1.heap.size w1 w') := fun w1 hb => isNull_any S M w1 8 (h.below hb) h8
    obtain ⟨a, n, c, a', m, c', hv⟩ := h.valueN
    rw [hv] at H1 H2 ⊢
    have hB0 : Below w.heap.size w (w.alloc (.cells #[.int .i64 S.kind, .slice a n c, .slice a' m c'] 26)) := (Below.refl _ _).alloc (Nat.le_refl _) _
    rw [hf] at H1
    have HR : Hid (isNullR S = nullR S) := by simp [Hid, isNullR, hf]
    clear hf hv h8
    go_enter Tryd.func10, Tryd.ntmps10
    go_wp2_with fail
    refine (H1.out _ hB0).mono ?_
    rintro e w1 ⟨rfl, hb1⟩
    have r0 : w1.cell? ⟨w.heap.size, 0, none⟩ = some (.int .i64 S.kind) := (hb1.cell (p := ⟨w.heap.size, 0, none⟩) (by simp)).trans (by simp [go_sem])
    have r1 : w1.cell? ⟨w.heap.size, 1, none⟩ = some (.slice a n c) := (hb1.cell (p := ⟨w.heap.size, 1, none⟩) (by simp)).trans (by simp [go_sem])
    have r2 : w1.cell? ⟨w.heap.size, 2, none⟩ = some (.slice a' m c') := (hb1.cell (p := ⟨w.heap.size, 2, none⟩) (by simp)).trans (by simp [go_sem])
    have hB1 := hB0.trans (hb1.mono hB0.size)
    go_wp2_with fail
    refine (H2.out _ hB1).mono ?_
    rintro e w2 ⟨rfl, hb2⟩
    go_wp2_with fail
    go_ret
    exact ⟨ret_bool HR.out.symm, hB1.trans (hb2.mono hB1.size)⟩
  · have hf' : okR S = false := Bool.eq_false_iff.2 hf
    obtain ⟨a, n, c, a', m, c', hv⟩ := h.valueN
    rw [hv] at H1 ⊢
    have hB0 : Below w.heap.size w (w.alloc (.cells #[.int .i64 S.kind, .slice a n c, .slice a' m c'] 26)) := (Below.refl _ _).alloc (Nat.le_refl _) _
    rw [hf'] at H1
    have HR : Hid (isNullR S = false) := by simp [Hid, isNullR, hf']
    clear hf hf' hv
    go_enter Tryd.func10, Tryd.ntmps10
    go_wp2_with fail
    refine (H1.out _ hB0).mono ?_
    rintro e w1 ⟨rfl, hb1⟩
    go_wp2_with fail
    go_ret
    exact ⟨ret_bool HR.out.symm, hB0.trans (hb1.mono hB0.size)⟩

end Go.Proofs.YtdkdpdkmkabbaaaDoor

