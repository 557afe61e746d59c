/- the walks of impl's RexText and of its law -/
import Derived.Test.YtcfmohmmkpjjeaaDoorVw
namespace Go.Proofs.YtcfmohmmkpjjeaaDoor
open Go.RowKit
set_option linter.unusedVariables false
set_option linter.unusedSimpArgs false

def textB (S : Sh) : ByteArray := ⟨(textR S).toArray⟩

set_option maxHeartbeats 1000000 in
theorem implRexText_any (S : Sh) (M : Mx) (w : World) (t : TypeId) (ea : Addr) (hE : Err w t ea) (hP : Tab w.heap.size w) (hT : In AnyB w S M) (hcnt : cnt S ≤ 1048576) :
    Calls Tryd.prog 7 #[vx S M] w fun e w' => e = .returned (.string (textB S)) ∧ Below w.heap.size w w' := by
  obtain ⟨a, n, c, a', m, c', hv⟩ := hT.value
  have hb0 : Below w.heap.size w (w.alloc (.cells #[.int .i64 S.kind, .slice a n c, .slice a' m c'] 31)) := (Below.refl _ _).alloc (Nat.le_refl _) _
  have HO : Hid (Calls Tryd.prog 15 #[vx S M] (w.alloc (.cells #[.int .i64 S.kind, .slice a n c, .slice a' m c'] 31)) fun e w' => e = .returned (.bool (okR S)) ∧ Below (w.alloc (.cells #[.int .i64 S.kind, .slice a n c, .slice a' m c'] 31)).heap.size (w.alloc (.cells #[.int .i64 S.kind, .slice a n c, .slice a' m c'] 31)) w') := implRexOk_any S M _ t ea (hE.below hb0) (hT.below hb0) hcnt
  have HX : Hid (okR S = true → ∀ w1, Below w.heap.size w w1 → Calls Tryd.prog 16 #[vx S M] w1 fun e w' => e = .returned (.string ⟨(textS S).toArray⟩) ∧ Below w1.heap.size w1 w') := fun ho w1 hb => textOf_any S M w1 8 (hT.below hb) hcnt (okR_form8 ho) (Tab.up (Tab.on hP hb) hb.size)
  rw [hv] at HO HX ⊢
  clear hv hE hT hP
  by_cases hf : okR S = true
  · have HX1 : Hid _ := HX.out hf
    rw [hf] at HO
    have HR : Hid (textB S = ⟨(textS S).toArray⟩) := by rw [Hid, textB, textR, if_pos hf]
    clear hf HX
    go_enter Tryd.func7, Tryd.ntmps7
    go_wp2_with fail
    refine HO.out.mono ?_
    rintro e w1 ⟨rfl, hb1⟩
    have hB1 := hb0.trans (hb1.mono hb0.size)
    have a0 : w1.cell? ⟨w.heap.size, 0, none⟩ = some (.int .i64 S.kind) := (hb1.cell (p := ⟨w.heap.size, 0, none⟩) (by simp)).trans (by simp [go_sem])
    have a1 : w1.cell? ⟨w.heap.size, 1, none⟩ = some (.slice a n c) := (hb1.cell (p := ⟨w.heap.size, 1, none⟩) (by simp)).trans (by simp [go_sem])
    have a2 : w1.cell? ⟨w.heap.size, 2, none⟩ = some (.slice a' m c') := (hb1.cell (p := ⟨w.heap.size, 2, none⟩) (by simp)).trans (by simp [go_sem])
    go_wp2_with fail
    refine (HX1.out _ hB1).mono ?_
    rintro e w2 ⟨rfl, hb2⟩
    go_wp2_with fail
    go_ret
    exact ⟨by rw [HR.out]; rfl, hB1.trans (hb2.mono hB1.size)⟩
  · have hf' : okR S = false := Bool.eq_false_iff.2 hf
    rw [hf'] at HO
    have HR : Hid (textB S = ⟨#[]⟩) := by rw [Hid, textB, textR, if_neg hf]
    clear hf hf' HX
    go_enter Tryd.func7, Tryd.ntmps7
    go_wp2_with fail
    refine HO.out.mono ?_
    rintro e w1 ⟨rfl, hb1⟩
    go_wp2_with fail
    go_ret
    exact ⟨by rw [HR.out]; rfl, hb0.trans (hb1.mono hb0.size)⟩

set_option maxRecDepth 100000 in
set_option maxHeartbeats 2000000 in
theorem lawRexText (S : Sh) (M : Mx) (w : World) (t : TypeId) (ea : Addr) (hE : Err w t ea) (hP : Tab w.heap.size w) (hT : In AnyB w S M) :
    Calls Tryd.prog 3 #[vx S M] w fun e w' => e = .returned (.bool true) ∧ Below w.heap.size w w' := by
  obtain ⟨a, n, c, a', m, c', hv⟩ := hT.value
  have HZ : Hid (∀ w1, Below w.heap.size w w1 → Calls Tryd.prog 4 #[vx S M, .int .i64 1048576] w1 fun e w' => e = .returned (.int .i64 (leftOf 1048576 (cnt S))) ∧ Below w1.heap.size w1 w') := fun w1 hb => szRex_any S M 1048576 w1 (hT.below hb) (by omega) (by omega)
  have hb0 : Below w.heap.size w (w.alloc (.cells #[.int .i64 S.kind, .slice a n c, .slice a' m c'] 25)) := (Below.refl _ _).alloc (Nat.le_refl _) _
  by_cases hc : 1048576 < cnt S
  · rw [leftOf_lt hc] at HZ
    rw [hv] at HZ ⊢
    clear hv
    go_enter Tryd.func3, Tryd.ntmps3
    go_wp2_with fail
    refine (HZ.out _ hb0).mono ?_
    rintro e w1 ⟨rfl, hb1⟩
    go_wp2_with fail
    go_ret
    exact ⟨rfl, hb0.trans (hb1.mono hb0.size)⟩
  · rw [show leftOf 1048576 (cnt S) = 1048576 - (cnt S : Int) from leftOf_pos (by omega)] at HZ
    have hcnt : cnt S ≤ 1048576 := by omega
    have H10 : Hid (∀ w1, Below w.heap.size w w1 → Calls Tryd.prog 6 #[vx S M] w1 (ToRes S w1)) := fun w1 hb => toRex_any S M w1 (hT.below hb) hcnt
    have H9 : Hid (∀ M1 w1, In AnyB w1 S M1 → Calls Tryd.prog 5 #[vx S M1] w1 fun e w' => e = .returned (.string (textB S)) ∧ Below w1.heap.size w1 w') := fun M1 w1 h => specRexText_any S M1 w1 h hcnt
    have H11 : Hid (∀ M1 w1, Below w.heap.size w w1 → In AnyB w1 S M1 → Calls Tryd.prog 7 #[vx S M1] w1 fun e w' => e = .returned (.string (textB S)) ∧ Below w1.heap.size w1 w') := fun M1 w1 hb h => implRexText_any S M1 w1 t ea (hE.below hb) (Tab.up (Tab.on hP hb) hb.size) h hcnt
    have H12 : Hid (∀ M1 M2 w1, In AnyB w1 S M1 → In AnyB w1 S M2 → Calls Tryd.prog 8 #[vx S M1, vx S M2] w1 fun e w' => e = .returned (.bool true) ∧ Below w1.heap.size w1 w') := fun M1 M2 w1 h1 h2 => eqRex_same S M1 M2 w1 h1 h2 hcnt
    obtain ⟨z, hz⟩ : ∃ z : Nat, cnt S = z := ⟨_, rfl⟩
    obtain ⟨ok, hok⟩ : ∃ ok : ByteArray, textB S = ok := ⟨_, rfl⟩
    have hz0 : ¬ 1048576 - (z : Int) < 0 := by omega
    rw [hz] at HZ
    rw [hok] at H9 H11
    rw [hv] at HZ H10 ⊢
    clear hv hz hok hcnt hc hT hE hP
    go_enter Tryd.func3, Tryd.ntmps3
    go_wp2_with fail
    refine (HZ.out _ hb0).mono ?_
    rintro e w1 ⟨rfl, hb1⟩
    have hB1 := hb0.trans (hb1.mono hb0.size)
    have a0 : w1.cell? ⟨w.heap.size, 0, none⟩ = some (.int .i64 S.kind) := (hb1.cell (p := ⟨w.heap.size, 0, none⟩) (by simp)).trans (by simp [go_sem])
    have a1 : w1.cell? ⟨w.heap.size, 1, none⟩ = some (.slice a n c) := (hb1.cell (p := ⟨w.heap.size, 1, none⟩) (by simp)).trans (by simp [go_sem])
    have a2 : w1.cell? ⟨w.heap.size, 2, none⟩ = some (.slice a' m c') := (hb1.cell (p := ⟨w.heap.size, 2, none⟩) (by simp)).trans (by simp [go_sem])
    have hlt1 : w.heap.size < w1.heap.size := World.block_lt_of_cell? _ _ a0
    go_wp2_with fail
    refine (H10.out _ hB1).mono ?_
    rintro e w2 ⟨M1, rfl, hin1, hb2⟩
    have hB2 := hB1.trans (hb2.mono hB1.size)
    have b0 : w2.cell? ⟨w.heap.size, 0, none⟩ = some (.int .i64 S.kind) := (hb2.cell (p := ⟨w.heap.size, 0, none⟩) hlt1).trans a0
    have b1 : w2.cell? ⟨w.heap.size, 1, none⟩ = some (.slice a n c) := (hb2.cell (p := ⟨w.heap.size, 1, none⟩) hlt1).trans a1
    have b2 : w2.cell? ⟨w.heap.size, 2, none⟩ = some (.slice a' m c') := (hb2.cell (p := ⟨w.heap.size, 2, none⟩) hlt1).trans a2
    have hlt2 : w.heap.size < w2.heap.size := World.block_lt_of_cell? _ _ b0
    have HI1 : Hid _ := hin1
    clear a0 a1 a2 hin1
    go_wp2_with fail
    refine (H9.out M1 w2 (In.any HI1.out)).mono ?_
    rintro e w3 ⟨rfl, hb3⟩
    have hB3 := hB2.trans (hb3.mono hB2.size)
    have c0 : w3.cell? ⟨w.heap.size, 0, none⟩ = some (.int .i64 S.kind) := (hb3.cell (p := ⟨w.heap.size, 0, none⟩) hlt2).trans b0
    have c1 : w3.cell? ⟨w.heap.size, 1, none⟩ = some (.slice a n c) := (hb3.cell (p := ⟨w.heap.size, 1, none⟩) hlt2).trans b1
    have c2 : w3.cell? ⟨w.heap.size, 2, none⟩ = some (.slice a' m c') := (hb3.cell (p := ⟨w.heap.size, 2, none⟩) hlt2).trans b2
    have hlt3 : w.heap.size < w3.heap.size := World.block_lt_of_cell? _ _ c0
    clear b0 b1 b2 HI1
    go_wp2_with fail
    refine (H10.out _ hB3).mono ?_
    rintro e w4 ⟨M2, rfl, hin2, hb4⟩
    have hB4 := hB3.trans (hb4.mono hB3.size)
    have d0 : w4.cell? ⟨w.heap.size, 0, none⟩ = some (.int .i64 S.kind) := (hb4.cell (p := ⟨w.heap.size, 0, none⟩) hlt3).trans c0
    have d1 : w4.cell? ⟨w.heap.size, 1, none⟩ = some (.slice a n c) := (hb4.cell (p := ⟨w.heap.size, 1, none⟩) hlt3).trans c1
    have d2 : w4.cell? ⟨w.heap.size, 2, none⟩ = some (.slice a' m c') := (hb4.cell (p := ⟨w.heap.size, 2, none⟩) hlt3).trans c2
    have hlt4 : w.heap.size < w4.heap.size := World.block_lt_of_cell? _ _ d0
    obtain ⟨e1, e2, e3, e4, e5, e6, hv2⟩ := hin2.value
    have HI2 : Hid _ := hin2
    have HV2 : Hid (vx S M2 = .agg #[.int .i64 S.kind, .slice e1 e2 e3, .slice e4 e5 e6]) := hv2
    rw [hv2]
    clear c0 c1 c2 hin2 hv2
    go_wp2_with fail
    have hb5 : Below w4.heap.size w4 (w4.alloc (.cells #[.int .i64 S.kind, .slice e1 e2 e3, .slice e4 e5 e6] 31)) := (Below.refl _ _).alloc (Nat.le_refl _) _
    have hB5 := hB4.trans (hb5.mono hB4.size)
    have H11' := H11.out M2 _ hB5 ((In.any HI2.out).below hb5)
    rw [HV2.out] at H11'
    refine H11'.mono ?_
    clear H11'
    rintro e w6 ⟨rfl, hb6⟩
    have hB6 := hB5.trans (hb6.mono hB5.size)
    have x0 : w6.cell? ⟨w4.heap.size, 0, none⟩ = some (.int .i64 S.kind) := (hb6.cell (p := ⟨w4.heap.size, 0, none⟩) (by simp)).trans (by simp [go_sem])
    have x1 : w6.cell? ⟨w4.heap.size, 1, none⟩ = some (.slice e1 e2 e3) := (hb6.cell (p := ⟨w4.heap.size, 1, none⟩) (by simp)).trans (by simp [go_sem])
    have x2 : w6.cell? ⟨w4.heap.size, 2, none⟩ = some (.slice e4 e5 e6) := (hb6.cell (p := ⟨w4.heap.size, 2, none⟩) (by simp)).trans (by simp [go_sem])
    have y0 : w6.cell? ⟨w.heap.size, 0, none⟩ = some (.int .i64 S.kind) := ((hb5.trans (hb6.mono hb5.size)).cell (p := ⟨w.heap.size, 0, none⟩) hlt4).trans d0
    have y1 : w6.cell? ⟨w.heap.size, 1, none⟩ = some (.slice a n c) := ((hb5.trans (hb6.mono hb5.size)).cell (p := ⟨w.heap.size, 1, none⟩) hlt4).trans d1
    have y2 : w6.cell? ⟨w.heap.size, 2, none⟩ = some (.slice a' m c') := ((hb5.trans (hb6.mono hb5.size)).cell (p := ⟨w.heap.size, 2, none⟩) hlt4).trans d2
    have HI6 : Hid (In AnyB w6 S M2) := ((In.any HI2.out).below hb5).below hb6
    clear d0 d1 d2
    go_wp2_with fail
    have H12' : Hid (∀ M3 w7, Below w6.heap.size w6 w7 → In AnyB w7 S M3 → Calls Tryd.prog 8 #[.agg #[.int .i64 S.kind, .slice e1 e2 e3, .slice e4 e5 e6], vx S M3] w7 fun e w' => e = .returned (.bool true) ∧ Below w7.heap.size w7 w') := fun M3 w7 hb h => by
      have h2 := H12.out M2 M3 w7 (HI6.out.below hb) h
      rwa [HV2.out] at h2
    have l6 : w4.heap.size < w6.heap.size := World.block_lt_of_cell? _ _ x0
    clear H12 HI2 HV2 HI6
    go_region_with (first
      | (go_at_call 6; refine (H10.out _ hB6.drew).mono ?_; rintro e w7 ⟨M3, rfl, hin3, hb7⟩; have hb7' : Below w6.heap.size w6 w7 := (Below.refl _ _).drew.trans hb7
         have p0 := (hb7'.cell (p := ⟨w4.heap.size, 0, none⟩) l6).trans x0
         have p1 := (hb7'.cell (p := ⟨w4.heap.size, 1, none⟩) l6).trans x1
         have p2 := (hb7'.cell (p := ⟨w4.heap.size, 2, none⟩) l6).trans x2)
      | (go_at_call 8; refine (H12'.out M3 _ hb7' (In.any hin3)).mono ?_; rintro e w8 ⟨rfl, hb8⟩))
    all_goals go_wp2_with fail
    all_goals
      go_ret
      have hB7 := hB6.trans (hb7'.mono hB6.size)
      exact ⟨rfl, hB7.trans (hb8.mono hB7.size)⟩

end Go.Proofs.YtcfmohmmkpjjeaaDoor

