/- the order of the parts again, told to the block: what the contract of slices.SortFunc asks of a comparison -/
import Derived.Test.YtjpmdbaalhieoaaDoorBv
import Derived.Sort.Grow
namespace Go.Proofs.YtjpmdbaalhieoaaDoor
open Go.RowKit Go.Sort
set_option linter.unusedVariables false
set_option linter.unusedSimpArgs false

/-- w' is w behind some draws, with new blocks -/
def Gr (w w' : World) : Prop := ∃ q os', w' = grow (w.drewN q) os'
theorem Gr.refl (w : World) : Gr w w := ⟨0, #[], by rw [grow_empty]; rfl⟩
theorem Gr.trans {a b c : World} (h : Gr a b) (h' : Gr b c) : Gr a c := by
  obtain ⟨n, os, rfl⟩ := h
  obtain ⟨m, os', rfl⟩ := h'
  exact ⟨n + m, os ++ os', by show grow (grow ((a.drewN n).drewN m) os) os' = _; rw [grow_grow, World.drewN_drewN]⟩
theorem Gr.alloc {a b : World} (h : Gr a b) (o : Obj) : Gr a (b.alloc o) := h.trans ⟨0, #[o], by rw [alloc_eq_grow]; rfl⟩
theorem Gr.drew {a b : World} (h : Gr a b) : Gr a b.drew := h.trans ⟨1, #[], by rw [grow_empty]; rfl⟩
theorem Gr.below {a b : World} (h : Gr a b) : Go.RowKit.Below a.heap.size a b := by
  obtain ⟨n, os, rfl⟩ := h
  exact ⟨rfl, rfl, rfl, by rw [size_grow]; exact Nat.le_add_right _ _, fun k hk => heap_grow_old (a.drewN n) os hk⟩

set_option maxHeartbeats 1000000 in
theorem first_gr (B : Nat → Bool) (w : World) (ht : TabZ w) :
    Calls Tryd.prog 23 #[.agg #[wc B 0, wc B 1, wc B 2, wc B 3]] w fun e w' => ∃ r : Int, e = .returned (.int .i64 r) ∧ FirstB B r ∧ Gr w w' := by
  have i0 : ∀ w, (Instr.index 40 (.agg #[wc B 0, wc B 1, wc B 2, wc B 3]) (.int .i64 0)).run Tryd.prog w = .ok (wc B 0) w := fun _ => by kernel_rfl
  have i1 : ∀ w, (Instr.index 40 (.agg #[wc B 0, wc B 1, wc B 2, wc B 3]) (.int .i64 1)).run Tryd.prog w = .ok (wc B 1) w := fun _ => by kernel_rfl
  have i2 : ∀ w, (Instr.index 40 (.agg #[wc B 0, wc B 1, wc B 2, wc B 3]) (.int .i64 2)).run Tryd.prog w = .ok (wc B 2) w := fun _ => by kernel_rfl
  have i3 : ∀ w, (Instr.index 40 (.agg #[wc B 0, wc B 1, wc B 2, wc B 3]) (.int .i64 3)).run Tryd.prog w = .ok (wc B 3) w := fun _ => by kernel_rfl
  go_enter Tryd.func23, Tryd.ntmps23
  go_wp2
  go_loopw [6] (fun i wr => ∃ k : Nat, k ≤ 4 ∧ i = .int .i64 k ∧ Hid (∀ x, x < 64 * k → B x = false) ∧ Gr w wr) (fun i _ => 4 - (intOf i).toNat)
  case atStart => exact ⟨0, by omega, rfl, fun x hx => absurd hx (by omega), (Gr.refl w).alloc _⟩
  case round =>
    obtain ⟨k, hk, rfl, HA, hB⟩ := hrel
    by_cases hlt : k < 4
    · have ik : (Instr.index 40 (.agg #[wc B 0, wc B 1, wc B 2, wc B 3]) (.int .i64 k)).run Tryd.prog wr = .ok (wc B k) wr := by
        have : k = 0 ∨ k = 1 ∨ k = 2 ∨ k = 3 := by omega
        rcases this with rfl | rfl | rfl | rfl
        · exact i0 wr
        · exact i1 wr
        · exact i2 wr
        · exact i3 wr
      clear i0 i1 i2 i3
      have hltz : (k : Int) < 4 := by omega
      by_cases h0 : W B k = 0
      · have hz : (((W B k : Nat) : Int) != 0) = false := by simp [h0]
        have HS : Hid (∀ x, x < 64 * (k + 1) → B x = false) := fun x hx => by
          by_cases e : x < 64 * k
          · exact HA.out x e
          · have h := W_testBit B k (x - 64 * k)
            rw [h0, show 64 * k + (x - 64 * k) = x by omega] at h
            simp [show x - 64 * k < 64 by omega] at h
            exact h
        clear h0
        go_wp2
        go_roundw
        case rel => exact ⟨k + 1, by omega, by go_num, HS, hB⟩
        case measure => simp [intOf]; omega
      · have hz : (((W B k : Nat) : Int) != 0) = true := by simp [h0]
        have HT := tz_any (W B k) h0 (W_lt B k) wr (ht.below hB.below)
        have HT' : Hid (Calls Tryd.prog 36 #[.int .u64 ((W B k : Nat) : Int)] wr fun e w' => ∃ t : Nat, e = .returned (.int .i64 t) ∧ t < 64 ∧ (W B k).testBit t = true ∧ (∀ j, j < t → (W B k).testBit j = false) ∧ w' = wr) := HT
        clear HT h0
        go_wp2_with fail
        refine HT'.out.mono ?_
        rintro e w1 ⟨t, rfl, ht64, hb, hl, hw1⟩
        subst w1
        have HF : Hid (FirstB B (((k : Int) * 64) + (t : Int))) := .inr ⟨64 * k + t, by omega, by omega, by
            rw [W_testBit] at hb; simp [ht64] at hb; exact hb, fun y hy => by
            by_cases e : y < 64 * k
            · exact HA.out y e
            · have h := hl (y - 64 * k) (by omega)
              rw [W_testBit, show 64 * k + (y - 64 * k) = y by omega] at h
              simp [show y - 64 * k < 64 by omega] at h
              exact h⟩
        clear hb hl HT'
        go_wp2
        go_ret
        exact ⟨_, rfl, HF.out, hB⟩
    · clear i0 i1 i2 i3
      go_wp2
      go_ret
      exact ⟨-1, rfl, .inl ⟨rfl, fun x hx => HA.out x (by omega)⟩, hB⟩

set_option maxRecDepth 100000 in
set_option maxHeartbeats 4000000 in
theorem sortCmp_gr (A B : Nat → Bool) (ra rb : Int) (w : World) (ht : TabZ w) (hA : FirstB A ra) (hB : FirstB B rb) :
    Calls Tryd.prog 21 #[.agg #[wc A 0, wc A 1, wc A 2, wc A 3], .agg #[wc B 0, wc B 1, wc B 2, wc B 3]] w fun e w' => e = .returned (.int .i64 (cmpI ra rb)) ∧ Gr w w' := by
  have HFA : Hid (∀ V, TabZ V → Calls Tryd.prog 23 #[.agg #[wc A 0, wc A 1, wc A 2, wc A 3]] V fun e w' => e = .returned (.int .i64 ra) ∧ Gr V w') := fun V hV => (first_gr A V hV).mono fun e w' ⟨r, e1, h1, h2⟩ => ⟨by rw [e1, h1.unique hA], h2⟩
  have HFB : Hid (∀ V, TabZ V → Calls Tryd.prog 23 #[.agg #[wc B 0, wc B 1, wc B 2, wc B 3]] V fun e w' => e = .returned (.int .i64 rb) ∧ Gr V w') := fun V hV => (first_gr B V hV).mono fun e w' ⟨r, e1, h1, h2⟩ => ⟨by rw [e1, h1.unique hB], h2⟩
  have HCM : Hid (∀ V, Calls Tryd.prog 22 #[.int .i64 ra, .int .i64 rb] V fun e w' => e = .returned (.int .i64 (cmpI ra rb)) ∧ w' = V) := fun V => compare_any ra rb V
  have HT : Hid (TabZ w) := ht
  clear ht hA hB
  go_enter Tryd.func21, Tryd.ntmps21
  go_wp2_with fail
  obtain ⟨W1, hW1⟩ : ∃ W1, W1 = (w.alloc (.cells #[wc A 0, wc A 1, wc A 2, wc A 3] 40)).alloc (.cells #[wc B 0, wc B 1, wc B 2, wc B 3] 40) := ⟨_, rfl⟩
  have hb1 : Gr w W1 := by rw [hW1]; exact ((Gr.refl w).alloc _).alloc _
  have HB1 : Hid (Gr w W1) := hb1
  have HBD : Hid (Go.RowKit.Below w.heap.size w W1.drew) := hb1.below.drew
  have hA4 : B4 W1 w.heap.size A := by rw [hW1]; exact (B4.new w A).below ((Go.RowKit.Below.refl _ _).alloc (Nat.le_refl _) _)
  have hB4 : B4 W1 (w.heap.size + 1) B := by
    have := B4.new (w.alloc (.cells #[wc A 0, wc A 1, wc A 2, wc A 3] 40)) B
    rw [World.size_alloc] at this
    rw [hW1]; exact this
  have HCE : Hid (∀ V, Go.RowKit.Below W1.heap.size W1 V → B4 V w.heap.size A ∧ B4 V (w.heap.size + 1) B) := fun V hV => ⟨hA4.below hV, hB4.below hV⟩
  rw [← hW1]
  obtain ⟨⟨a0, a1, a2, a3⟩, b0, b1, b2, b3⟩ := HCE.out W1 (Go.RowKit.Below.refl _ _)
  clear hW1 hb1 hA4 hB4
  go_region_held (fun V => (V.cell? ⟨w.heap.size, 0, none⟩ = some (.int .u64 ((W A 0 : Nat) : Int)) ∧ V.cell? ⟨w.heap.size, 1, none⟩ = some (.int .u64 ((W A 1 : Nat) : Int)) ∧ V.cell? ⟨w.heap.size, 2, none⟩ = some (.int .u64 ((W A 2 : Nat) : Int)) ∧ V.cell? ⟨w.heap.size, 3, none⟩ = some (.int .u64 ((W A 3 : Nat) : Int))) ∧ (V.cell? ⟨w.heap.size + 1, 0, none⟩ = some (.int .u64 ((W B 0 : Nat) : Int)) ∧ V.cell? ⟨w.heap.size + 1, 1, none⟩ = some (.int .u64 ((W B 1 : Nat) : Int)) ∧ V.cell? ⟨w.heap.size + 1, 2, none⟩ = some (.int .u64 ((W B 2 : Nat) : Int)) ∧ V.cell? ⟨w.heap.size + 1, 3, none⟩ = some (.int .u64 ((W B 3 : Nat) : Int)))) (go_keep)
    (first
      | (go_at_call 22; refine (HCM.out _).mono ?_; rintro e w7 ⟨rfl, e7⟩; subst w7)
      | (go_at_call 23; refine (HFB.out _ HT6.out).mono ?_; rintro e w6 ⟨rfl, hb6⟩; have HB6 : Hid (Gr W1 w6) := HB5.out.trans hb6; obtain ⟨⟨d0, d1, d2, d3⟩, f0, f1, f2, f3⟩ := HCE.out w6 HB6.out.below)
      | (go_at_call 23; refine (HFA.out _ (HT.out.below HBD.out)).mono ?_; rintro e w5 ⟨rfl, hb5⟩; have HB5 : Hid (Gr W1 w5) := ((Gr.refl W1).drew).trans hb5; have HT6 : Hid (TabZ w5) := HT.out.below (HB1.out.trans HB5.out).below; obtain ⟨⟨x0, x1, x2, x3⟩, y0, y1, y2, y3⟩ := HCE.out w5 HB5.out.below))
  all_goals go_wp2_with fail
  all_goals
    go_ret
    exact ⟨rfl, HB1.out.trans HB6.out⟩
end Go.Proofs.YtjpmdbaalhieoaaDoor

