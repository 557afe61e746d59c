/- The walks of impl's NormStar and NormNot. -/
import Derived.Test.YtbnllbhlmnkgcaaDoorNl
namespace Go.Proofs.YtbnllbhlmnkgcaaDoor
open Go.RowKit Go.Shelf
set_option linter.unusedVariables false
set_option linter.unusedSimpArgs false

set_option maxRecDepth 100000 in
set_option maxHeartbeats 2000000 in
theorem implNormStar_any (S : Sh) (M : Mx) (w : World) (t : TypeId) (ea : Addr) (hE : Err w t ea) (h : In (Soft w) w S M) (hcnt : cnt S ≤ 1048576) : Calls Tryd.prog 47 #[vx S M] w (OwnRes (normR starR S) w) := by
  obtain ⟨a, b, off, c, a', b', off', c', e1, _, _, _, e2, _⟩ := h.parts
  have hv : vx S M = .agg #[.int .i64 S.kind, .slice a S.n c, .slice a' S.m c'] := by rw [vx, e1, e2]
  obtain ⟨W, hW⟩ : ∃ W, W = ((w.alloc (.cells #[.int .i64 S.kind, .slice a S.n c, .slice a' S.m c'] 26)).alloc (.cells #[.int .i64 0, .slice none 0 0, .slice none 0 0] 26)).alloc (.cells #[.int .i64 S.kind, .slice a S.n c, .slice a' S.m c'] 26) := ⟨_, rfl⟩
  have hbW : Below w.heap.size w W := by rw [hW]; exact (below_two _ _ _).trans ((below_new _ _).mono (by simp; omega))
  have hsW : W.heap.size = w.heap.size + 3 := by rw [hW]; simp
  have hgiv : Giv W (w.heap.size + 1 + 1) [(S, M)] := ⟨fun i p hp => by
    match i, hp with
    | 0, hp =>
      obtain rfl : (S, M) = p := by simpa using hp
      refine ⟨⟨?_, ?_, ?_⟩, (h.below hbW).mono (fun k hk => hk.below hbW), hcnt⟩
      · rw [hW]; simp [go_sem]
      · rw [hW, show (S, M).2.sv = .slice a S.n c from e1]; simp [go_sem]
      · rw [hW, show (S, M).2.kv = .slice a' S.m c' from e2]; simp [go_sem]
    | i + 1, hp => simp at hp⟩
  have HCN : Hid (Calls Tryd.prog 97 #[.slice (some ⟨w.heap.size + 1 + 1, 0, none⟩) 1 1] W fun e w' => e = .returned (.bool (formB 60 S)) ∧ Below W.heap.size W w') := by
    have hh := canNorm_any W t ea (hE.below hbW) (w.heap.size + 1 + 1) [(S, M)] hgiv (by simp)
    rwa [show givB [(S, M)] = formB 60 S by simp [givB]] at hh
  have hX : W.cell? ⟨w.heap.size, 0, none⟩ = some (.int .i64 S.kind) ∧ W.cell? ⟨w.heap.size, 1, none⟩ = some (.slice a S.n c) ∧ W.cell? ⟨w.heap.size, 2, none⟩ = some (.slice a' S.m c') := by rw [hW]; exact ⟨by simp [go_sem], by simp [go_sem], by simp [go_sem]⟩
  have HRBW : Hid (Rb W (w.heap.size + 1)) := by
    have := ((Rb.new (w.alloc (.cells #[.int .i64 S.kind, .slice a S.n c, .slice a' S.m c'] 26)) (.int .i64 0) (.slice none 0 0) (.slice none 0 0))).of_block ((below_new ((w.alloc (.cells #[.int .i64 S.kind, .slice a S.n c, .slice a' S.m c'] 26)).alloc (.cells #[.int .i64 0, .slice none 0 0, .slice none 0 0] 26)) (.cells #[.int .i64 S.kind, .slice a S.n c, .slice a' S.m c'] 26)).block _ (by simp))
    rw [size_new, ← hW] at this
    exact this
  have HBW : Hid (Below w.heap.size w W) := hbW
  have HX : Hid (∀ V, Below W.heap.size W V → V.cell? ⟨w.heap.size, 0, none⟩ = some (.int .i64 S.kind) ∧ V.cell? ⟨w.heap.size, 1, none⟩ = some (.slice a S.n c) ∧ V.cell? ⟨w.heap.size, 2, none⟩ = some (.slice a' S.m c')) := fun V hb =>
    ⟨(hb.cell (p := ⟨_, _, none⟩) (World.block_lt_of_cell? _ _ hX.1)).trans hX.1, (hb.cell (p := ⟨_, _, none⟩) (World.block_lt_of_cell? _ _ hX.2.1)).trans hX.2.1, (hb.cell (p := ⟨_, _, none⟩) (World.block_lt_of_cell? _ _ hX.2.2)).trans hX.2.2⟩
  have HV : Hid (vx S M = .agg #[.int .i64 S.kind, .slice a S.n c, .slice a' S.m c']) := hv
  have HI : Hid (In (· < w.heap.size) w S M) := h.mono (fun k hk => hk.lt)
  cases hf : formB 60 S with
  | false =>
    rw [hf] at HCN
    have HR : Hid (normR starR S = zeroS 0) := normR_false hf
    rw [hv]
    clear hv hf h e1 e2 hX hgiv hE hbW
    go_enter Tryd.func47, Tryd.ntmps47
    go_wp2_with fail
    rw [← hW]
    clear hW
    refine HCN.out.mono ?_
    rintro e w1 ⟨rfl, hb1⟩
    have HRB1 : Hid (Rb w1 (w.heap.size + 1)) := HRBW.out.of_block (hb1.block _ HRBW.out.lt)
    have HB1 : Hid (Below w.heap.size w w1) := HBW.out.trans (hb1.mono HBW.out.size)
    obtain ⟨⟨b0', d0⟩, ⟨b1', d1⟩, ⟨b2', d2⟩, df⟩ := HRB1.out.cells
    clear hb1
    go_wp2_with fail
    refine bodyPost_ret (v := .agg #[.int .i64 0, .slice none 0 0, .slice none 0 0]) (by simp [results, Tryd.results47, go_sem, d0, d1, d2]) rfl ?_
    rw [HR.out]
    exact ⟨Mx.no, rfl, zero_own _ _ _, ((HB1.out.setCell (by simp) _).setCell (by simp) _).setCell (by simp) _⟩
  | true =>
    rw [hf] at HCN
    have HR : Hid (normR starR S = starR S) := normR_true hf
    have HG : Hid (∀ w1, Below w.heap.size w w1 → Calls Tryd.prog 102 #[.agg #[.int .i64 S.kind, .slice a S.n c, .slice a' S.m c']] w1 (ShResB (· < w.heap.size) (starR S) w1)) := fun w1 hb => by
      have hh := makeStar_any S M w1 (HI.out.below hb) (fun k hk => by have := hb.size; omega)
      rwa [hv] at hh
    have HC2 : Hid (∀ M1 w1, In AnyB w1 (starR S) M1 → Calls Tryd.prog 98 #[vx (starR S) M1] w1 (OwnRes (starR S) w1)) := fun M1 w1 h1 => newRex_any _ M1 w1 h1 (by have := starR_cnt S; omega)
    rw [hv]
    clear hv hf h e1 e2 hX hgiv hE hbW
    go_enter Tryd.func47, Tryd.ntmps47
    go_wp2_with fail
    rw [← hW]
    clear hW
    refine HCN.out.mono ?_
    rintro e w1 ⟨rfl, hb1⟩
    have HRB1 : Hid (Rb w1 (w.heap.size + 1)) := HRBW.out.of_block (hb1.block _ HRBW.out.lt)
    have HB1 : Hid (Below w.heap.size w w1) := HBW.out.trans (hb1.mono HBW.out.size)
    obtain ⟨r0, r1, r2⟩ := HX.out w1 hb1
    clear hb1
    go_wp2_with fail
    refine (HG.out w1 HB1.out).mono ?_
    rintro e w3 ⟨M3, rfl, hin3, hb3⟩
    have HI3 : Hid (In AnyB w3 (starR S) M3) := hin3.mono (fun _ _ => trivial)
    have HRB3 : Hid (Rb w3 (w.heap.size + 1)) := HRB1.out.of_block (hb3.block _ HRB1.out.lt)
    have HB3 : Hid (Below w.heap.size w w3) := HB1.out.trans (hb3.mono HB1.out.size)
    clear hin3 hb3 r0 r1 r2
    go_wp2_with fail
    refine (HC2.out M3 w3 HI3.out).mono ?_
    rintro e w4 ⟨M4, rfl, hown4, hb4⟩
    have hlt3 : w.heap.size + 1 < w3.heap.size := HRB3.out.lt
    have HRB4 : Hid (Rb w4 (w.heap.size + 1)) := HRB3.out.of_block (hb4.block _ HRB3.out.lt)
    have HB4 : Hid (Below w.heap.size w w4) := HB3.out.trans (hb4.mono HB3.out.size)
    have HO4 : Hid (Own w3.heap.size w4 (starR S) M4) := hown4
    obtain ⟨x1, x2, x3, x4, hv4⟩ := hown4.any.value'
    have HV4 : Hid (vx (starR S) M4 = .agg #[.int .i64 (starR S).kind, .slice x1 (starR S).n x2, .slice x3 (starR S).m x4]) := hv4
    rw [hv4]
    obtain ⟨⟨b0', d0⟩, ⟨b1', d1⟩, ⟨b2', d2⟩, df⟩ := HRB4.out.cells
    clear hown4 hb4 hv4
    go_wp2_with fail
    refine bodyPost_ret (v := .agg #[.int .i64 (starR S).kind, .slice x1 (starR S).n x2, .slice x3 (starR S).m x4]) (by simp [results, Tryd.results47, go_sem, d0, d1, d2]) rfl ?_
    rw [HR.out]
    exact ⟨M4, by rw [HV4.out], (own3 hlt3 _ _ _ HO4.out).mono (by omega), ((HB4.out.setCell (by simp) _).setCell (by simp) _).setCell (by simp) _⟩

set_option maxRecDepth 100000 in
set_option maxHeartbeats 2000000 in
theorem implNormNot_any (S : Sh) (M : Mx) (w : World) (t : TypeId) (ea : Addr) (hE : Err w t ea) (h : In (Soft w) w S M) (hcnt : cnt S ≤ 1048576) : Calls Tryd.prog 49 #[vx S M] w (OwnRes (normR notR S) w) := by
  obtain ⟨a, b, off, c, a', b', off', c', e1, _, _, _, e2, _⟩ := h.parts
  have hv : vx S M = .agg #[.int .i64 S.kind, .slice a S.n c, .slice a' S.m c'] := by rw [vx, e1, e2]
  obtain ⟨W, hW⟩ : ∃ W, W = ((w.alloc (.cells #[.int .i64 S.kind, .slice a S.n c, .slice a' S.m c'] 26)).alloc (.cells #[.int .i64 0, .slice none 0 0, .slice none 0 0] 26)).alloc (.cells #[.int .i64 S.kind, .slice a S.n c, .slice a' S.m c'] 26) := ⟨_, rfl⟩
  have hbW : Below w.heap.size w W := by rw [hW]; exact (below_two _ _ _).trans ((below_new _ _).mono (by simp; omega))
  have hsW : W.heap.size = w.heap.size + 3 := by rw [hW]; simp
  have hgiv : Giv W (w.heap.size + 1 + 1) [(S, M)] := ⟨fun i p hp => by
    match i, hp with
    | 0, hp =>
      obtain rfl : (S, M) = p := by simpa using hp
      refine ⟨⟨?_, ?_, ?_⟩, (h.below hbW).mono (fun k hk => hk.below hbW), hcnt⟩
      · rw [hW]; simp [go_sem]
      · rw [hW, show (S, M).2.sv = .slice a S.n c from e1]; simp [go_sem]
      · rw [hW, show (S, M).2.kv = .slice a' S.m c' from e2]; simp [go_sem]
    | i + 1, hp => simp at hp⟩
  have HCN : Hid (Calls Tryd.prog 97 #[.slice (some ⟨w.heap.size + 1 + 1, 0, none⟩) 1 1] W fun e w' => e = .returned (.bool (formB 60 S)) ∧ Below W.heap.size W w') := by
    have hh := canNorm_any W t ea (hE.below hbW) (w.heap.size + 1 + 1) [(S, M)] hgiv (by simp)
    rwa [show givB [(S, M)] = formB 60 S by simp [givB]] at hh
  have hX : W.cell? ⟨w.heap.size, 0, none⟩ = some (.int .i64 S.kind) ∧ W.cell? ⟨w.heap.size, 1, none⟩ = some (.slice a S.n c) ∧ W.cell? ⟨w.heap.size, 2, none⟩ = some (.slice a' S.m c') := by rw [hW]; exact ⟨by simp [go_sem], by simp [go_sem], by simp [go_sem]⟩
  have HRBW : Hid (Rb W (w.heap.size + 1)) := by
    have := ((Rb.new (w.alloc (.cells #[.int .i64 S.kind, .slice a S.n c, .slice a' S.m c'] 26)) (.int .i64 0) (.slice none 0 0) (.slice none 0 0))).of_block ((below_new ((w.alloc (.cells #[.int .i64 S.kind, .slice a S.n c, .slice a' S.m c'] 26)).alloc (.cells #[.int .i64 0, .slice none 0 0, .slice none 0 0] 26)) (.cells #[.int .i64 S.kind, .slice a S.n c, .slice a' S.m c'] 26)).block _ (by simp))
    rw [size_new, ← hW] at this
    exact this
  have HBW : Hid (Below w.heap.size w W) := hbW
  have HX : Hid (∀ V, Below W.heap.size W V → V.cell? ⟨w.heap.size, 0, none⟩ = some (.int .i64 S.kind) ∧ V.cell? ⟨w.heap.size, 1, none⟩ = some (.slice a S.n c) ∧ V.cell? ⟨w.heap.size, 2, none⟩ = some (.slice a' S.m c')) := fun V hb =>
    ⟨(hb.cell (p := ⟨_, _, none⟩) (World.block_lt_of_cell? _ _ hX.1)).trans hX.1, (hb.cell (p := ⟨_, _, none⟩) (World.block_lt_of_cell? _ _ hX.2.1)).trans hX.2.1, (hb.cell (p := ⟨_, _, none⟩) (World.block_lt_of_cell? _ _ hX.2.2)).trans hX.2.2⟩
  have HV : Hid (vx S M = .agg #[.int .i64 S.kind, .slice a S.n c, .slice a' S.m c']) := hv
  have HI : Hid (In (· < w.heap.size) w S M) := h.mono (fun k hk => hk.lt)
  cases hf : formB 60 S with
  | false =>
    rw [hf] at HCN
    have HR : Hid (normR notR S = zeroS 0) := normR_false hf
    rw [hv]
    clear hv hf h e1 e2 hX hgiv hE hbW
    go_enter Tryd.func49, Tryd.ntmps49
    go_wp2_with fail
    rw [← hW]
    clear hW
    refine HCN.out.mono ?_
    rintro e w1 ⟨rfl, hb1⟩
    have HRB1 : Hid (Rb w1 (w.heap.size + 1)) := HRBW.out.of_block (hb1.block _ HRBW.out.lt)
    have HB1 : Hid (Below w.heap.size w w1) := HBW.out.trans (hb1.mono HBW.out.size)
    obtain ⟨⟨b0', d0⟩, ⟨b1', d1⟩, ⟨b2', d2⟩, df⟩ := HRB1.out.cells
    clear hb1
    go_wp2_with fail
    refine bodyPost_ret (v := .agg #[.int .i64 0, .slice none 0 0, .slice none 0 0]) (by simp [results, Tryd.results49, go_sem, d0, d1, d2]) rfl ?_
    rw [HR.out]
    exact ⟨Mx.no, rfl, zero_own _ _ _, ((HB1.out.setCell (by simp) _).setCell (by simp) _).setCell (by simp) _⟩
  | true =>
    rw [hf] at HCN
    have HR : Hid (normR notR S = notR S) := normR_true hf
    have HG : Hid (∀ w1, Below w.heap.size w w1 → Calls Tryd.prog 104 #[.agg #[.int .i64 S.kind, .slice a S.n c, .slice a' S.m c']] w1 (ShResB (· < w.heap.size) (notR S) w1)) := fun w1 hb => by
      have hh := makeNot_any S M w1 (HI.out.below hb) (fun k hk => by have := hb.size; omega) (form_pos S hf)
      rwa [hv] at hh
    have HC2 : Hid (∀ M1 w1, In AnyB w1 (notR S) M1 → Calls Tryd.prog 98 #[vx (notR S) M1] w1 (OwnRes (notR S) w1)) := fun M1 w1 h1 => newRex_any _ M1 w1 h1 (by have := notR_cnt S (form_pos S hf); omega)
    rw [hv]
    clear hv hf h e1 e2 hX hgiv hE hbW
    go_enter Tryd.func49, Tryd.ntmps49
    go_wp2_with fail
    rw [← hW]
    clear hW
    refine HCN.out.mono ?_
    rintro e w1 ⟨rfl, hb1⟩
    have HRB1 : Hid (Rb w1 (w.heap.size + 1)) := HRBW.out.of_block (hb1.block _ HRBW.out.lt)
    have HB1 : Hid (Below w.heap.size w w1) := HBW.out.trans (hb1.mono HBW.out.size)
    obtain ⟨r0, r1, r2⟩ := HX.out w1 hb1
    clear hb1
    go_wp2_with fail
    refine (HG.out w1 HB1.out).mono ?_
    rintro e w3 ⟨M3, rfl, hin3, hb3⟩
    have HI3 : Hid (In AnyB w3 (notR S) M3) := hin3.mono (fun _ _ => trivial)
    have HRB3 : Hid (Rb w3 (w.heap.size + 1)) := HRB1.out.of_block (hb3.block _ HRB1.out.lt)
    have HB3 : Hid (Below w.heap.size w w3) := HB1.out.trans (hb3.mono HB1.out.size)
    clear hin3 hb3 r0 r1 r2
    go_wp2_with fail
    refine (HC2.out M3 w3 HI3.out).mono ?_
    rintro e w4 ⟨M4, rfl, hown4, hb4⟩
    have hlt3 : w.heap.size + 1 < w3.heap.size := HRB3.out.lt
    have HRB4 : Hid (Rb w4 (w.heap.size + 1)) := HRB3.out.of_block (hb4.block _ HRB3.out.lt)
    have HB4 : Hid (Below w.heap.size w w4) := HB3.out.trans (hb4.mono HB3.out.size)
    have HO4 : Hid (Own w3.heap.size w4 (notR S) M4) := hown4
    obtain ⟨x1, x2, x3, x4, hv4⟩ := hown4.any.value'
    have HV4 : Hid (vx (notR S) M4 = .agg #[.int .i64 (notR S).kind, .slice x1 (notR S).n x2, .slice x3 (notR S).m x4]) := hv4
    rw [hv4]
    obtain ⟨⟨b0', d0⟩, ⟨b1', d1⟩, ⟨b2', d2⟩, df⟩ := HRB4.out.cells
    clear hown4 hb4 hv4
    go_wp2_with fail
    refine bodyPost_ret (v := .agg #[.int .i64 (notR S).kind, .slice x1 (notR S).n x2, .slice x3 (notR S).m x4]) (by simp [results, Tryd.results49, go_sem, d0, d1, d2]) rfl ?_
    rw [HR.out]
    exact ⟨M4, by rw [HV4.out], (own3 hlt3 _ _ _ HO4.out).mono (by omega), ((HB4.out.setCell (by simp) _).setCell (by simp) _).setCell (by simp) _⟩
end Go.Proofs.YtbnllbhlmnkgcaaDoor
