/- The walk of the model's NormCat. -/
import Derived.Test.YtiphmmgfmiiilaaDoorQb
namespace Go.Proofs.YtiphmmgfmiiilaaDoor
open Go.RowKit Go.Shelf
set_option linter.unusedVariables false
set_option linter.unusedSimpArgs false

/-- what the one made of two comes to -/
def normR2 (f : Sh → Sh → Sh) (A B : Sh) : Sh := if (formB 60 A && formB 60 B) = true then f A B else zeroS 0
theorem normR2_true {f : Sh → Sh → Sh} {A B : Sh} (h : (formB 60 A && formB 60 B) = true) : normR2 f A B = f A B := if_pos h
theorem normR2_false {f : Sh → Sh → Sh} {A B : Sh} (h : (formB 60 A && formB 60 B) = false) : normR2 f A B = zeroS 0 := if_neg (by simp [h])

set_option maxRecDepth 100000 in
set_option maxHeartbeats 8000000 in
theorem specNormCat_any (A B : Sh) (M N : Mx) (w : World) (hA : In AnyB w A M) (hB : In AnyB w B N) (hcA : cnt A + cnt B ≤ 1048576) : Calls Tryd.prog 5 #[vx A M, vx B N] w (OwnRes (normR2 catR A B) w) := by
  obtain ⟨a, c, a', c', hvA⟩ := hA.value'
  obtain ⟨b, d, b', d', hvB⟩ := hB.value'
  obtain ⟨W, hW⟩ : ∃ W, W = ((w.alloc (.cells #[.int .i64 A.kind, .slice a A.n c, .slice a' A.m c'] 30)).alloc (.cells #[.int .i64 B.kind, .slice b B.n d, .slice b' B.m d'] 30)).alloc (.cells #[.int .i64 0, .slice none 0 0, .slice none 0 0] 30) := ⟨_, rfl⟩
  have hbW : Below w.heap.size w W := by rw [hW]; exact below_three _ _ _ _
  have hsW : W.heap.size = w.heap.size + 3 := by rw [hW]; simp
  have hX : (W.cell? ⟨w.heap.size, 0, none⟩ = some (.int .i64 A.kind) ∧ W.cell? ⟨w.heap.size, 1, none⟩ = some (.slice a A.n c) ∧ W.cell? ⟨w.heap.size, 2, none⟩ = some (.slice a' A.m c')) ∧ (W.cell? ⟨w.heap.size + 1, 0, none⟩ = some (.int .i64 B.kind) ∧ W.cell? ⟨w.heap.size + 1, 1, none⟩ = some (.slice b B.n d) ∧ W.cell? ⟨w.heap.size + 1, 2, none⟩ = some (.slice b' B.m d')) ∧ Rb W (w.heap.size + 1 + 1) := by
    refine ⟨?_, ?_, ?_⟩
    · rw [hW]; exact ⟨by simp [go_sem], by simp [go_sem], by simp [go_sem]⟩
    · rw [hW]; exact ⟨by simp [go_sem], by simp [go_sem], by simp [go_sem]⟩
    · have := Rb.new ((w.alloc (.cells #[.int .i64 A.kind, .slice a A.n c, .slice a' A.m c'] 30)).alloc (.cells #[.int .i64 B.kind, .slice b B.n d, .slice b' B.m d'] 30)) (.int .i64 0) (.slice none 0 0) (.slice none 0 0)
      rw [size_new, size_new, ← hW] at this
      exact this
  have HX : Hid (∀ V, Below W.heap.size W V → (V.cell? ⟨w.heap.size, 0, none⟩ = some (.int .i64 A.kind) ∧ V.cell? ⟨w.heap.size, 1, none⟩ = some (.slice a A.n c) ∧ V.cell? ⟨w.heap.size, 2, none⟩ = some (.slice a' A.m c')) ∧ (V.cell? ⟨w.heap.size + 1, 0, none⟩ = some (.int .i64 B.kind) ∧ V.cell? ⟨w.heap.size + 1, 1, none⟩ = some (.slice b B.n d) ∧ V.cell? ⟨w.heap.size + 1, 2, none⟩ = some (.slice b' B.m d')) ∧ Hid (Rb V (w.heap.size + 1 + 1)) ∧ w.heap.size + 2 < V.heap.size) := fun V hb => by
    obtain ⟨⟨x0, x1, x2⟩, ⟨y0, y1, y2⟩, hr⟩ := hX
    have k : ∀ bb o v, W.cell? ⟨bb, o, none⟩ = some v → V.cell? ⟨bb, o, none⟩ = some v := fun bb o v h => (hb.cell (p := ⟨bb, o, none⟩) (World.block_lt_of_cell? _ _ h)).trans h
    exact ⟨⟨k _ _ _ x0, k _ _ _ x1, k _ _ _ x2⟩, ⟨k _ _ _ y0, k _ _ _ y1, k _ _ _ y2⟩, hr.of_block (hb.block _ hr.lt), by have := hb.size; omega⟩
  have HBW : Hid (Below w.heap.size w W) := hbW
  have HDA : Hid (∀ V, Below W.heap.size W V → Calls Tryd.prog 13 #[.agg #[.int .i64 A.kind, .slice a A.n c, .slice a' A.m c']] V fun e w' => e = .returned (.bool (formB 60 A)) ∧ Below V.heap.size V w') := fun V hb => by
    have h := l4Deep_any A M V ((hA.below hbW).below hb) (by omega)
    rwa [hvA] at h
  have HDB : Hid (∀ V, Below W.heap.size W V → Calls Tryd.prog 13 #[.agg #[.int .i64 B.kind, .slice b B.n d, .slice b' B.m d']] V fun e w' => e = .returned (.bool (formB 60 B)) ∧ Below V.heap.size V w') := fun V hb => by
    have h := l4Deep_any B N V ((hB.below hbW).below hb) (by omega)
    rwa [hvB] at h
  have HCA : Hid (∀ V, Below W.heap.size W V → Calls Tryd.prog 14 #[.agg #[.int .i64 A.kind, .slice a A.n c, .slice a' A.m c']] V (OwnRes A V)) := fun V hb => by
    have h := l2Copy_any A M V ((hA.below hbW).below hb) (by omega)
    rwa [hvA] at h
  have HCB : Hid (∀ V, Below W.heap.size W V → Calls Tryd.prog 14 #[.agg #[.int .i64 B.kind, .slice b B.n d, .slice b' B.m d']] V (OwnRes B V)) := fun V hb => by
    have h := l2Copy_any B N V ((hB.below hbW).below hb) (by omega)
    rwa [hvB] at h
  have HLAST : Hid (∀ (V : World) (u0 u1 u2 : Value), Below w.heap.size w V → Below w.heap.size w (((V.setCell ⟨w.heap.size + 1 + 1, 0, none⟩ u0).setCell ⟨w.heap.size + 1 + 1, 1, none⟩ u1).setCell ⟨w.heap.size + 1 + 1, 2, none⟩ u2)) := fun V u0 u1 u2 hb => ((hb.setCell (by show w.heap.size ≤ w.heap.size + 1 + 1; omega) _).setCell (by show w.heap.size ≤ w.heap.size + 1 + 1; omega) _).setCell (by show w.heap.size ≤ w.heap.size + 1 + 1; omega) _
  rw [hvA, hvB]
  have HFF : Hid ((formB 60 A && formB 60 B) = (formB 60 A && formB 60 B)) := rfl
  have HCNT : Hid (cnt (catR A B) ≤ 2097152) := by have := catR_cnt A B; rw [Hid]; omega
  clear hvA hvB hX hA hB hbW
  cases hfa : formB 60 A with
  | false =>
    rw [hfa] at HDA
    have HR : Hid (normR2 catR A B = zeroS 0) := normR2_false (by rw [hfa]; rfl)
    clear hfa
    go_enter Tryd.func5, Tryd.ntmps5
    go_wp2_with fail
    rw [← hW]
    clear hW
    refine (HDA.out W (Below.refl _ _)).mono ?_
    rintro e w1 ⟨rfl, hb1⟩
    obtain ⟨⟨x0, x1, x2⟩, ⟨y0, y1, y2⟩, HR1, hlt1⟩ := HX.out w1 hb1
    obtain ⟨⟨_, d0⟩, ⟨_, d1⟩, ⟨_, d2⟩, df⟩ := HR1.out.cells
    have HB1 : Hid (Below w.heap.size w w1) := HBW.out.trans (hb1.mono HBW.out.size)
    clear hb1
    go_wp2_with fail
    refine bodyPost_ret (v := .agg #[.int .i64 0, .slice none 0 0, .slice none 0 0]) (by simp [results, Tryd.results5, go_sem, d0, d1, d2]) rfl ?_
    rw [HR.out]
    exact ⟨Mx.no, rfl, zero_own _ _ _, HLAST.out _ _ _ _ HB1.out⟩
  | true =>
    rw [hfa] at HDA
    cases hfb : formB 60 B with
    | false =>
      rw [hfb] at HDB
      have HR : Hid (normR2 catR A B = zeroS 0) := normR2_false (by rw [hfa, hfb]; rfl)
      clear hfa hfb
      go_enter Tryd.func5, Tryd.ntmps5
      go_wp2_with fail
      rw [← hW]
      clear hW
      refine (HDA.out W (Below.refl _ _)).mono ?_
      rintro e w1 ⟨rfl, hb1⟩
      obtain ⟨⟨x0, x1, x2⟩, ⟨y0, y1, y2⟩, HR1, hlt1⟩ := HX.out w1 hb1
      have HB1 : Hid (Below W.heap.size W w1) := hb1
      clear hb1
      go_wp2_with fail
      refine (HDB.out w1 HB1.out).mono ?_
      rintro e w2 ⟨rfl, hb2⟩
      have HB2 : Hid (Below W.heap.size W w2) := HB1.out.trans (hb2.mono HB1.out.size)
      obtain ⟨⟨u0, u1, u2⟩, ⟨v0, v1, v2⟩, HR2, hlt2⟩ := HX.out w2 HB2.out
      obtain ⟨⟨_, d0⟩, ⟨_, d1⟩, ⟨_, d2⟩, df⟩ := HR2.out.cells
      have HB0 : Hid (Below w.heap.size w w2) := HBW.out.trans (HB2.out.mono HBW.out.size)
      clear hb2 x0 x1 x2 y0 y1 y2
      go_wp2_with fail
      refine bodyPost_ret (v := .agg #[.int .i64 0, .slice none 0 0, .slice none 0 0]) (by simp [results, Tryd.results5, go_sem, d0, d1, d2]) rfl ?_
      rw [HR.out]
      exact ⟨Mx.no, rfl, zero_own _ _ _, HLAST.out _ _ _ _ HB0.out⟩
    | true =>
      rw [hfb] at HDB
      have HR : Hid (normR2 catR A B = catR A B) := normR2_true (by rw [hfa, hfb]; rfl)
      have HALL : Hid (allB A = true) := ((form_iff A 60).1 hfa).1
      have HCAT : Hid (∀ MA MB V, In AnyB V A MA → In AnyB V B MB → Calls Tryd.prog 15 #[vx A MA, vx B MB] V (ShResB (· < V.heap.size) (catR A B) V)) := fun MA MB V h1 h2 => l4Cat_any A B MA MB V (· < V.heap.size) (In.lt h1) (In.lt h2) (fun k hk => hk) HALL.out
      have HCP : Hid (∀ M3 V, In AnyB V (catR A B) M3 → Calls Tryd.prog 14 #[vx (catR A B) M3] V (OwnRes (catR A B) V)) := fun M3 V h => l2Copy_any _ M3 V h HCNT.out
      clear hfa hfb
      go_enter Tryd.func5, Tryd.ntmps5
      go_wp2_with fail
      rw [← hW]
      clear hW
      refine (HDA.out W (Below.refl _ _)).mono ?_
      rintro e w1 ⟨rfl, hb1⟩
      obtain ⟨⟨x0, x1, x2⟩, ⟨y0, y1, y2⟩, HR1, hlt1⟩ := HX.out w1 hb1
      have HB1 : Hid (Below W.heap.size W w1) := hb1
      clear hb1
      go_wp2_with fail
      refine (HDB.out w1 HB1.out).mono ?_
      rintro e w2 ⟨rfl, hb2⟩
      have HB2 : Hid (Below W.heap.size W w2.drew) := (HB1.out.trans (hb2.mono HB1.out.size)).drew
      obtain ⟨⟨u0, u1, u2⟩, ⟨v0, v1, v2⟩, HR2, hlt2⟩ := HX.out w2 (HB1.out.trans (hb2.mono HB1.out.size))
      clear hb2 x0 x1 x2 y0 y1 y2
      go_wp2_with fail
      go_region_with (first
        | (go_at_call 14; refine (HCP.out M3 w3 HI3.out).mono ?_; rintro e w4 ⟨M4, rfl, hown4, hb4⟩
           obtain ⟨z1, z2, z3, z4, hv4⟩ := hown4.any.value'
           have HV4 : Hid (vx (catR A B) M4 = .agg #[.int .i64 (catR A B).kind, .slice z1 (catR A B).n z2, .slice z3 (catR A B).m z4]) := hv4
           rw [hv4]
           have HB4 : Hid (Below W.heap.size W w4) := HB3.out.trans (hb4.mono HB3.out.size)
           have hlt3 : w.heap.size + 2 < w3.heap.size := (HX.out w3 HB3.out).2.2.2
           have HO4 : Hid (Own w3.heap.size w4 (catR A B) M4) := hown4
           obtain ⟨_, _, HR4, hlt4⟩ := HX.out w4 HB4.out
           obtain ⟨⟨m0', g0⟩, ⟨m1', g1⟩, ⟨m2', g2⟩, gf⟩ := HR4.out.cells)
        | (go_at_call 15; refine (HCAT.out MA MB wB (HIA.out.below hbB) HIB.out).mono ?_; rintro e w3 ⟨M3, rfl, hin3, hb3⟩; have HI3 : Hid (In AnyB w3 (catR A B) M3) := hin3.mono (fun _ _ => trivial); have HB3 : Hid (Below W.heap.size W w3) := HBB.out.trans (hb3.mono HBB.out.size))
        | (go_at_call 15; refine (HCAT.out MA MB wA HIA.out (HIB.out.below hbA)).mono ?_; rintro e w3 ⟨M3, rfl, hin3, hb3⟩; have HI3 : Hid (In AnyB w3 (catR A B) M3) := hin3.mono (fun _ _ => trivial); have HB3 : Hid (Below W.heap.size W w3) := HBA.out.trans (hb3.mono HBA.out.size))
        | (go_at_call 14; refine (HCA.out wB HBB.out).mono ?_; rintro e wA ⟨MA, rfl, hownA, hbA⟩; have HIA : Hid (In AnyB wA A MA) := hownA.any; have HBA : Hid (Below W.heap.size W wA) := HBB.out.trans (hbA.mono HBB.out.size))
        | (go_at_call 14; refine (HCB.out wA HBA.out).mono ?_; rintro e wB ⟨MB, rfl, hownB, hbB⟩; have HIB : Hid (In AnyB wB B MB) := hownB.any; have HBB : Hid (Below W.heap.size W wB) := HBA.out.trans (hbB.mono HBA.out.size))
        | (go_at_call 14; refine (HCA.out _ HB2.out).mono ?_; rintro e wA ⟨MA, rfl, hownA, hbA⟩; have HIA : Hid (In AnyB wA A MA) := hownA.any; have HBA : Hid (Below W.heap.size W wA) := HB2.out.trans (hbA.mono HB2.out.size); obtain ⟨_, ⟨n0, n1, n2⟩, _, _⟩ := HX.out wA HBA.out)
        | (go_at_call 14; refine (HCB.out _ HB2.out).mono ?_; rintro e wB ⟨MB, rfl, hownB, hbB⟩; have HIB : Hid (In AnyB wB B MB) := hownB.any; have HBB : Hid (Below W.heap.size W wB) := HB2.out.trans (hbB.mono HB2.out.size); obtain ⟨⟨n0, n1, n2⟩, _, _, _⟩ := HX.out wB HBB.out))
      all_goals go_wp2_with fail
      all_goals
        refine bodyPost_ret (v := .agg #[.int .i64 (catR A B).kind, .slice z1 (catR A B).n z2, .slice z3 (catR A B).m z4]) (by simp [results, Tryd.results5, go_sem, g0, g1, g2]) rfl ?_
        rw [HR.out]
        exact ⟨M4, by rw [HV4.out], (own3 (b := w.heap.size + 1 + 1) (by omega) _ _ _ HO4.out).mono (by omega), HLAST.out _ _ _ _ (HBW.out.trans (HB4.out.mono HBW.out.size))⟩
end Go.Proofs.YtiphmmgfmiiilaaDoor

