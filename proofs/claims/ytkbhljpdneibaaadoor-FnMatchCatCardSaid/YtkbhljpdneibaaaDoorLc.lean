/- The walk of the law FnMatchCat. -/
import Derived.Test.YtkbhljpdneibaaaDoorLh
import Derived.Deep.CutRange
namespace Go.Proofs.YtkbhljpdneibaaaDoor
open Go.RowKit
set_option linter.unusedVariables false
set_option linter.unusedSimpArgs false

theorem al_at (w : World) (o : Obj) : (w.alloc o).heap[w.heap.size]? = some o := by show (w.heap.push _)[w.heap.size]? = _; simp
theorem al_old (w : World) (o : Obj) {k : Nat} {x : Obj} (h : w.heap[k]? = some x) : (w.alloc o).heap[k]? = some x := by
  refine ((below_new w o).block k ?_).trans h
  rcases Nat.lt_or_ge k w.heap.size with h' | h'
  · exact h'
  · exact absurd h (by simp [Array.getElem?_eq_none h'])
theorem bl_al {w V : World} (h : Below w.heap.size w V) (o : Obj) : Below w.heap.size w (V.alloc o) := h.alloc h.size o
/-- a slice of bytes that came in lies there still -/
theorem bytes_below {n bb off : Nat} {V : Nat → Nat} {w w' : World} {a : Option Addr} (ha : 0 < n → a = some ⟨bb, off, none⟩ ∧ bb < w.heap.size) (hV : ∀ i, i < n → V i ≤ 255 ∧ w.cell? ⟨bb, off + i, none⟩ = some (.int .u8 (V i : Int))) (hb : Below w.heap.size w w') :
    (0 < n → a = some ⟨bb, off, none⟩ ∧ bb < w'.heap.size) ∧ ∀ i, i < n → V i ≤ 255 ∧ w'.cell? ⟨bb, off + i, none⟩ = some (.int .u8 (V i : Int)) :=
  ⟨fun h => ⟨(ha h).1, Nat.lt_of_lt_of_le (ha h).2 hb.size⟩, fun i hi => ⟨(hV i hi).1, (hb.cell (p := ⟨bb, off + i, none⟩) (ha (by omega)).2).trans (hV i hi).2⟩⟩

set_option maxRecDepth 100000 in
set_option maxHeartbeats 8000000 in
theorem lawCat (a : Option Addr) (n c bb off : Nat) (V : Nat → Nat) (a2 : Option Addr) (n2 c2 bb2 off2 : Nat) (V2 : Nat → Nat) (w : World) (t : TypeId) (ea : Addr) (hE : Err w t ea) (hn : n ≤ 9223372036854775807) (hc : n ≤ c) (hcc : c ≤ 9223372036854775807) (ha : 0 < n → a = some ⟨bb, off, none⟩ ∧ bb < w.heap.size) (hV : ∀ i, i < n → V i ≤ 255 ∧ w.cell? ⟨bb, off + i, none⟩ = some (.int .u8 (V i : Int))) (hn2 : n2 ≤ 9223372036854775807) (hc2 : n2 ≤ c2) (hcc2 : c2 ≤ 9223372036854775807) (ha2 : 0 < n2 → a2 = some ⟨bb2, off2, none⟩ ∧ bb2 < w.heap.size) (hV2 : ∀ i, i < n2 → V2 i ≤ 255 ∧ w.cell? ⟨bb2, off2 + i, none⟩ = some (.int .u8 (V2 i : Int))) :
    Calls Tryd.prog 5 #[.slice a n c, .slice a2 n2 c2] w fun e w' => e = .returned (.bool true) ∧ Below w.heap.size w w' := by
  by_cases hbig : 1048576 < n
  · have hb : (1048576 : Int) < (n : Int) := by omega
    clear ha hV ha2 hV2
    go_enter Tryd.func5, Tryd.ntmps5
    go_wp2_with fail
    go_ret
    exact ⟨rfl, Below.refl _ _⟩
  by_cases hbig2 : 1048576 < n2
  · have hb : ¬ (1048576 : Int) < (n : Int) := by omega
    have hb2 : (1048576 : Int) < (n2 : Int) := by omega
    clear ha hV ha2 hV2
    go_enter Tryd.func5, Tryd.ntmps5
    go_wp2_with fail
    go_ret
    exact ⟨rfl, Below.refl _ _⟩
  have hb : ¬ (1048576 : Int) < (n : Int) := by omega
  have hb2 : ¬ (1048576 : Int) < (n2 : Int) := by omega
  have HD : Hid (Calls Tryd.prog 12 #[.slice a n c] w (DrawRes w)) := drawIs_any a n c bb off V w (by omega) hc hcc ha hV
  have HD2 : Hid (∀ w', Below w.heap.size w w' → Calls Tryd.prog 12 #[.slice a2 n2 c2] w' (DrawRes w')) := fun w' hb => drawIs_any a2 n2 c2 bb2 off2 V2 w' (by omega) hc2 hcc2 (bytes_below ha2 hV2 hb).1 (bytes_below ha2 hV2 hb).2
  have HE : Hid (Err w t ea) := hE
  clear ha hV hE hbig ha2 hV2 hbig2
  go_enter Tryd.func5, Tryd.ntmps5
  go_wp2_with fail
  refine HD.out.mono ?_
  rintro e w1 ⟨S, M, s, rfl, hin1, hcS, hs13, hb1⟩
  obtain ⟨sa, sn, sc, ka, km, kc, es, ek⟩ := hin1.slices
  have HVA : Hid (vx S M = .agg #[.int .i64 S.kind, .slice sa sn sc, .slice ka km kc]) := by rw [Hid, vx, es, ek]
  obtain ⟨W2, hW2⟩ : ∃ V, V = w1.alloc (.cells #[.int .i64 S.kind, .slice sa sn sc, .slice ka km kc] 26) := ⟨_, rfl⟩
  have hb12 : Below w1.heap.size w1 W2 := by rw [hW2]; exact below_new _ _
  have HB2 : Hid (Below w.heap.size w W2) := hb1.trans (hb12.mono hb1.size)
  have HXA : Hid (W2.heap[w1.heap.size]? = some (.cells #[.int .i64 S.kind, .slice sa sn sc, .slice ka km kc] 26 (0, 0))) := by rw [hW2]; show (w1.heap.push _)[w1.heap.size]? = _; simp
  have HIA : Hid (In (Soft W2) W2 S M) := (hin1.below hb12).mono (fun k hk => hk.below hb12)
  have HCS : Hid (cnt S ≤ 256100) := hcS
  rw [HVA.out]
  clear hin1 hcS es ek hb1 hb12
  go_wp2_with fail
  rw [← hW2]
  clear hW2
  refine (HD2.out W2 HB2.out).mono ?_
  rintro e w3 ⟨T, N, u, rfl, hin3, hcT, hu13, hb3⟩
  obtain ⟨ta, tn, tc, la, lm, lc, es, ek⟩ := hin3.slices
  have HVB : Hid (vx T N = .agg #[.int .i64 T.kind, .slice ta tn tc, .slice la lm lc]) := by rw [Hid, vx, es, ek]
  have hbA := (hb3.block _ (show w1.heap.size < W2.heap.size by rcases Nat.lt_or_ge w1.heap.size W2.heap.size with h' | h'; exact h'; exact absurd HXA.out (by simp [Array.getElem?_eq_none h']))).trans HXA.out
  obtain ⟨_, x0, x1, x2, xf⟩ := boxed hbA
  have lxA : w1.heap.size < w3.heap.size := World.block_lt_of_cell? _ _ x0
  have lxA1 : w1.heap.size < w3.heap.size + 1 := by omega
  have lxA2 : w1.heap.size < w3.heap.size + 1 + 1 := by omega
  have lxA3 : w1.heap.size < w3.heap.size + 1 + 1 + 1 := by omega
  have lxA4 : ¬ w1.heap.size = w3.heap.size + 1 + 1 := by omega
  have lxA5 : ¬ w1.heap.size = w3.heap.size + 1 := by omega
  have lxA6 : ¬ w1.heap.size = w3.heap.size := by omega
  obtain ⟨W8, hW8⟩ : ∃ V, V = ((((w3.alloc (.cells #[.int .i64 T.kind, .slice ta tn tc, .slice la lm lc] 26)).alloc (.cells #[.int .i64 S.kind, .slice sa sn sc, .slice ka km kc, .int .i64 T.kind, .slice ta tn tc, .slice la lm lc] 26)).alloc (.cells #[.int .i64 3, .slice none 0 0, .slice (some ⟨w3.heap.size + 1, 0, none⟩) 2 2] 26)).alloc (.cells #[.int .i64 S.kind, .slice sa sn sc, .slice ka km kc] 26)).alloc (.cells #[.int .i64 5, .slice none 0 0, .slice (some ⟨w3.heap.size + 1 + 1 + 1, 0, none⟩) 1 1] 26) := ⟨_, rfl⟩
  have HB38 : Hid (Below w3.heap.size w3 W8) := by
    rw [Hid, hW8]
    exact bl_al (bl_al (bl_al (bl_al (bl_al (Below.refl _ _) _) _) _) _) _
  have HW8 : Hid (W8.heap.size = w3.heap.size + 5 ∧ W8.heap[w3.heap.size]? = some (.cells #[.int .i64 T.kind, .slice ta tn tc, .slice la lm lc] 26) ∧ W8.heap[w3.heap.size + 1]? = some (.cells #[.int .i64 S.kind, .slice sa sn sc, .slice ka km kc, .int .i64 T.kind, .slice ta tn tc, .slice la lm lc] 26) ∧ W8.heap[w3.heap.size + 1 + 1]? = some (.cells #[.int .i64 3, .slice none 0 0, .slice (some ⟨w3.heap.size + 1, 0, none⟩) 2 2] 26) ∧ W8.heap[w3.heap.size + 1 + 1 + 1]? = some (.cells #[.int .i64 S.kind, .slice sa sn sc, .slice ka km kc] 26) ∧ W8.heap[w3.heap.size + 1 + 1 + 1 + 1]? = some (.cells #[.int .i64 5, .slice none 0 0, .slice (some ⟨w3.heap.size + 1 + 1 + 1, 0, none⟩) 1 1] 26)) := by
    rw [Hid, hW8]
    refine ⟨by rw [size_new, size_new, size_new, size_new, size_new], al_old _ _ (al_old _ _ (al_old _ _ (al_old _ _ (al_at _ _)))), al_old _ _ (al_old _ _ (al_old _ _ ?_)), al_old _ _ (al_old _ _ ?_), al_old _ _ ?_, ?_⟩
    · have h := al_at (w3.alloc (.cells #[.int .i64 T.kind, .slice ta tn tc, .slice la lm lc] 26)) (.cells #[.int .i64 S.kind, .slice sa sn sc, .slice ka km kc, .int .i64 T.kind, .slice ta tn tc, .slice la lm lc] 26)
      rwa [size_new] at h
    · have h := al_at ((w3.alloc (.cells #[.int .i64 T.kind, .slice ta tn tc, .slice la lm lc] 26)).alloc (.cells #[.int .i64 S.kind, .slice sa sn sc, .slice ka km kc, .int .i64 T.kind, .slice ta tn tc, .slice la lm lc] 26)) (.cells #[.int .i64 3, .slice none 0 0, .slice (some ⟨w3.heap.size + 1, 0, none⟩) 2 2] 26)
      rwa [size_new, size_new] at h
    · have h := al_at (((w3.alloc (.cells #[.int .i64 T.kind, .slice ta tn tc, .slice la lm lc] 26)).alloc (.cells #[.int .i64 S.kind, .slice sa sn sc, .slice ka km kc, .int .i64 T.kind, .slice ta tn tc, .slice la lm lc] 26)).alloc (.cells #[.int .i64 3, .slice none 0 0, .slice (some ⟨w3.heap.size + 1, 0, none⟩) 2 2] 26)) (.cells #[.int .i64 S.kind, .slice sa sn sc, .slice ka km kc] 26)
      rwa [size_new, size_new, size_new] at h
    · have h := al_at ((((w3.alloc (.cells #[.int .i64 T.kind, .slice ta tn tc, .slice la lm lc] 26)).alloc (.cells #[.int .i64 S.kind, .slice sa sn sc, .slice ka km kc, .int .i64 T.kind, .slice ta tn tc, .slice la lm lc] 26)).alloc (.cells #[.int .i64 3, .slice none 0 0, .slice (some ⟨w3.heap.size + 1, 0, none⟩) 2 2] 26)).alloc (.cells #[.int .i64 S.kind, .slice sa sn sc, .slice ka km kc] 26)) (.cells #[.int .i64 5, .slice none 0 0, .slice (some ⟨w3.heap.size + 1 + 1 + 1, 0, none⟩) 1 1] 26)
      rwa [size_new, size_new, size_new, size_new] at h
  have HB8 : Hid (Below w.heap.size w W8) := (HB2.out.trans (hb3.mono HB2.out.size)).trans (HB38.out.mono (Nat.le_trans HB2.out.size hb3.size))
  have HIS8 : Hid (In AnyB W8 S M ∧ In AnyB W8 T N) := ⟨((HIA.out.below hb3).below HB38.out).mono (fun _ _ => trivial), (hin3.below HB38.out).mono (fun _ _ => trivial)⟩
  have HIC : Hid (In AnyB W8 (two2 3 S M T N) (nodeM (.slice (some ⟨w3.heap.size + 1, 0, none⟩) 2 2) [(S, M), (T, N)])) := by
    refine node_inB (ks := [(S, M), (T, N)]) 3 (fun i v hi => ?_) trivial (fun p hp => ?_) (by simp)
    · have hcl : (encK [(S, M), (T, N)]) = [.int .i64 S.kind, .slice sa sn sc, .slice ka km kc, .int .i64 T.kind, .slice ta tn tc, .slice la lm lc] := by
        have e1 := HVA.out
        have e2 := HVB.out
        simp only [vx, Value.agg.injEq, Array.mk.injEq, List.cons.injEq, true_and, and_true] at e1 e2
        simp [encK, enc3, e1.1, e1.2, e2.1, e2.2]
      rw [hcl] at hi
      simp only [World.cell?, HW8.out.2.2.1]
      simpa using hi
    · have hq2 : p = (S, M) ∨ p = (T, N) := by simpa using hp
      rcases hq2 with rfl | rfl
      · exact HIS8.out.1
      · exact HIS8.out.2
  have HID : Hid (In AnyB W8 (one1 5 S M) (nodeM (.slice (some ⟨w3.heap.size + 1 + 1 + 1, 0, none⟩) 1 1) [(S, M)])) := by
    refine node_inB (ks := [(S, M)]) 5 (fun i v hi => ?_) trivial (fun p hp => ?_) (by simp)
    · have hcl : (encK [(S, M)]) = [.int .i64 S.kind, .slice sa sn sc, .slice ka km kc] := by
        have e1 := HVA.out
        simp only [vx, Value.agg.injEq, Array.mk.injEq, List.cons.injEq, true_and, and_true] at e1
        simp [encK, enc3, e1.1, e1.2]
      rw [hcl] at hi
      simp only [World.cell?, HW8.out.2.2.2.2.1]
      simpa using hi
    · have hq1 : p = (S, M) := List.mem_singleton.1 hp
      subst hq1
      exact HIS8.out.1
  have HX : Hid (∀ V, Below W8.heap.size W8 V → (V.cell? ⟨w1.heap.size, 0, none⟩ = some (.int .i64 S.kind) ∧ V.cell? ⟨w1.heap.size, 1, none⟩ = some (.slice sa sn sc) ∧ V.cell? ⟨w1.heap.size, 2, none⟩ = some (.slice ka km kc)) ∧ (V.cell? ⟨w3.heap.size, 0, none⟩ = some (.int .i64 T.kind) ∧ V.cell? ⟨w3.heap.size, 1, none⟩ = some (.slice ta tn tc) ∧ V.cell? ⟨w3.heap.size, 2, none⟩ = some (.slice la lm lc)) ∧ (V.cell? ⟨w3.heap.size + 1 + 1, 0, none⟩ = some (.int .i64 3) ∧ V.cell? ⟨w3.heap.size + 1 + 1, 1, none⟩ = some (.slice none 0 0) ∧ V.cell? ⟨w3.heap.size + 1 + 1, 2, none⟩ = some (.slice (some ⟨w3.heap.size + 1, 0, none⟩) 2 2)) ∧ (V.cell? ⟨w3.heap.size + 1 + 1 + 1 + 1, 0, none⟩ = some (.int .i64 5) ∧ V.cell? ⟨w3.heap.size + 1 + 1 + 1 + 1, 1, none⟩ = some (.slice none 0 0) ∧ V.cell? ⟨w3.heap.size + 1 + 1 + 1 + 1, 2, none⟩ = some (.slice (some ⟨w3.heap.size + 1 + 1 + 1, 0, none⟩) 1 1))) := fun V hb => by
    obtain ⟨z, y0, y1, y2, y3, y4⟩ := HW8.out
    have kk : ∀ b o, W8.heap[b]? = some o → V.heap[b]? = some o := fun b o h => (hb.block b (by rcases Nat.lt_or_ge b W8.heap.size with h' | h'; exact h'; exact absurd h (by simp [Array.getElem?_eq_none h']))).trans h
    have yA := kk _ _ ((HB38.out.block _ lxA).trans hbA)
    obtain ⟨_, p0, p1, p2, _⟩ := boxed yA
    obtain ⟨_, q0, q1, q2, _⟩ := boxed (kk _ _ y0)
    obtain ⟨_, r0, r1, r2, _⟩ := boxed (kk _ _ y2)
    obtain ⟨_, t0, t1, t2, _⟩ := boxed (kk _ _ y4)
    exact ⟨⟨p0, p1, p2⟩, ⟨q0, q1, q2⟩, ⟨r0, r1, r2⟩, ⟨t0, t1, t2⟩⟩
  have HER : Hid (∀ V, Below W8.heap.size W8 V → Err V t ea) := fun V hb => (HE.out.below HB8.out).below hb
  have HCT : Hid (cnt T ≤ 256100) := hcT
  have KA : Hid (∀ V, Below W8.heap.size W8 V → Calls Tryd.prog 13 #[.agg #[.int .i64 S.kind, .slice sa sn sc, .slice ka km kc], .string s] V fun e w' => e = .returned (.bool (isB S s)) ∧ Below V.heap.size V w') := fun V hb => by
    have h := implMatchIs_any S M s V t ea (HER.out V hb) (HIS8.out.1.below hb) (by have := HCS.out; omega)
    rwa [HVA.out] at h
  have KS : Hid (∀ V, Below W8.heap.size W8 V → Calls Tryd.prog 14 #[.agg #[.int .i64 S.kind, .slice sa sn sc, .slice ka km kc], .string s] V fun e w' => e = .returned (.bool (isB S s)) ∧ Below V.heap.size V w') := fun V hb => by
    have h := specMatchIs_any S M s V (HIS8.out.1.below hb) (by have := HCS.out; omega)
    rwa [HVA.out] at h
  have KB : Hid (∀ V, Below W8.heap.size W8 V → Calls Tryd.prog 13 #[.agg #[.int .i64 T.kind, .slice ta tn tc, .slice la lm lc], .string u] V fun e w' => e = .returned (.bool (isB T u)) ∧ Below V.heap.size V w') := fun V hb => by
    have h := implMatchIs_any T N u V t ea (HER.out V hb) (HIS8.out.2.below hb) (by have := HCT.out; omega)
    rwa [HVB.out] at h
  have HVC : Hid (vx (two2 3 S M T N) (nodeM (.slice (some ⟨w3.heap.size + 1, 0, none⟩) 2 2) [(S, M), (T, N)]) = .agg #[.int .i64 3, .slice none 0 0, .slice (some ⟨w3.heap.size + 1, 0, none⟩) 2 2]) := rfl
  have HVD : Hid (vx (one1 5 S M) (nodeM (.slice (some ⟨w3.heap.size + 1 + 1 + 1, 0, none⟩) 1 1) [(S, M)]) = .agg #[.int .i64 5, .slice none 0 0, .slice (some ⟨w3.heap.size + 1 + 1 + 1, 0, none⟩) 1 1]) := rfl
  have KOC : Hid (∀ V, Below W8.heap.size W8 V → Calls Tryd.prog 10 #[.agg #[.int .i64 3, .slice none 0 0, .slice (some ⟨w3.heap.size + 1, 0, none⟩) 2 2]] V fun e w' => e = .returned (.bool (okR (two2 3 S M T N))) ∧ Below V.heap.size V w') := fun V hb => by
    have h := implRexOk_any (two2 3 S M T N) _ V t ea (HER.out V hb) (HIC.out.below hb) (by rw [cnt_two2]; have := HCS.out; have := HCT.out; omega)
    rwa [HVC.out] at h
  have KOD : Hid (∀ V, Below W8.heap.size W8 V → Calls Tryd.prog 10 #[.agg #[.int .i64 5, .slice none 0 0, .slice (some ⟨w3.heap.size + 1 + 1 + 1, 0, none⟩) 1 1]] V fun e w' => e = .returned (.bool (okR (one1 5 S M))) ∧ Below V.heap.size V w') := fun V hb => by
    have h := implRexOk_any (one1 5 S M) _ V t ea (HER.out V hb) (HID.out.below hb) (by rw [cnt_one1]; have := HCS.out; omega)
    rwa [HVD.out] at h
  have KC : Hid (∀ V, Below W8.heap.size W8 V → Calls Tryd.prog 13 #[.agg #[.int .i64 3, .slice none 0 0, .slice (some ⟨w3.heap.size + 1, 0, none⟩) 2 2], .string (s ++ u)] V fun e w' => e = .returned (.bool (isB (two2 3 S M T N) (s ++ u))) ∧ Below V.heap.size V w') := fun V hb => by
    have h := implMatchIs_any (two2 3 S M T N) _ (s ++ u) V t ea (HER.out V hb) (HIC.out.below hb) (by rw [cnt_two2]; have := HCS.out; have := HCT.out; omega)
    rwa [HVC.out] at h
  have KD : Hid (∀ (x : ByteArray) V, Below W8.heap.size W8 V → Calls Tryd.prog 13 #[.agg #[.int .i64 5, .slice none 0 0, .slice (some ⟨w3.heap.size + 1 + 1 + 1, 0, none⟩) 1 1], .string x] V fun e w' => e = .returned (.bool (isB (one1 5 S M) x)) ∧ Below V.heap.size V w') := fun x V hb => by
    have h := implMatchIs_any (one1 5 S M) _ x V t ea (HER.out V hb) (HID.out.below hb) (by rw [cnt_one1]; have := HCS.out; omega)
    rwa [HVD.out] at h
  have HPC : Hid (okR (two2 3 S M T N) = true → isB S s = true → isB T u = true → s.size + u.size ≤ 12 → isB (two2 3 S M T N) (s ++ u) = true) := fun h1 h2 h3 h4 => cat_word h1 h2 h3 h4
  have HPD : Hid (okR (one1 5 S M) = true → isB S s = true → s.size ≤ 4 → isB (one1 5 S M) ⟨#[]⟩ = true ∧ isB (one1 5 S M) s = true ∧ isB (one1 5 S M) (s ++ s ++ s) = true) := fun h1 h2 h3 => star_word h1 h2 h3
  have HB88 : Hid (Below W8.heap.size W8 W8) := Below.refl _ _
  have hsu : s.size + u.size ≤ 1000 := by omega
  have hss : s.size + s.size ≤ 1000 := by omega
  have hsss : (s ++ s).size + s.size ≤ 1000 := by rw [ByteArray.size_append]; omega
  obtain ⟨pb, hpb⟩ : ∃ b, isB S s = b := ⟨_, rfl⟩
  obtain ⟨qb, hqb⟩ : ∃ b, isB T u = b := ⟨_, rfl⟩
  obtain ⟨oc, hoc⟩ : ∃ b, okR (two2 3 S M T N) = b := ⟨_, rfl⟩
  obtain ⟨od, hod⟩ : ∃ b, okR (one1 5 S M) = b := ⟨_, rfl⟩
  rw [hpb] at KA KS HPC HPD
  rw [hqb] at KB HPC
  rw [hoc] at KOC HPC
  rw [hod] at KOD HPD
  rw [HVB.out]
  clear HVC HVD hin3 es ek hcT hb3 HIA HXA hbA HD HD2 HIS8 HIC HID HER HE HW8 HB38 HCS HCT HVA HVB hpb hqb hoc hod
  go_wp2_with fail
  rw [← hW8]
  clear hW8 x0 x1 x2 xf
  refine (KA.out _ HB88.out).mono ?_
  rintro e v9 ⟨rfl, hb9⟩
  have HB89 : Hid (Below W8.heap.size W8 v9) := HB88.out.trans (hb9.mono HB88.out.size)
  obtain ⟨⟨p0, p1, p2⟩, ⟨q0, q1, q2⟩, ⟨r0, r1, r2⟩, ⟨t0, t1, t2⟩⟩ := HX.out v9 HB89.out
  clear hb9
  go_wp2_with fail
  refine (KS.out _ HB89.out).mono ?_
  rintro e v10 ⟨rfl, hb10⟩
  have HB810 : Hid (Below W8.heap.size W8 v10) := HB89.out.trans (hb10.mono HB89.out.size)
  clear p0 p1 p2 q0 q1 q2 r0 r1 r2 t0 t1 t2
  obtain ⟨⟨p0, p1, p2⟩, ⟨q0, q1, q2⟩, ⟨r0, r1, r2⟩, ⟨t0, t1, t2⟩⟩ := HX.out v10 HB810.out
  clear hb10
  go_upto_region 10 with fail
  go_cut [70] from 12 (fun u wc => u = .bool false ∧ Below W8.heap.size W8 wc)
  case first =>
    cases pb
    · go_wp2_with fail
      go_meet
      exact ⟨rfl, HB810.out⟩
    · go_wp2_with fail
      cases qb
      · refine (KB.out _ HB810.out).mono ?_
        rintro e v11 ⟨rfl, hb11⟩
        have HB811 : Hid (Below W8.heap.size W8 v11) := HB810.out.trans (hb11.mono HB810.out.size)
        clear p0 p1 p2 q0 q1 q2 r0 r1 r2 t0 t1 t2
        obtain ⟨⟨p0, p1, p2⟩, ⟨q0, q1, q2⟩, ⟨r0, r1, r2⟩, ⟨t0, t1, t2⟩⟩ := HX.out v11 HB811.out
        clear hb11
        go_wp2_with fail
        go_meet
        exact ⟨rfl, HB811.out⟩
      · refine (KB.out _ HB810.out).mono ?_
        rintro e v11 ⟨rfl, hb11⟩
        have HB811 : Hid (Below W8.heap.size W8 v11) := HB810.out.trans (hb11.mono HB810.out.size)
        clear p0 p1 p2 q0 q1 q2 r0 r1 r2 t0 t1 t2
        obtain ⟨⟨p0, p1, p2⟩, ⟨q0, q1, q2⟩, ⟨r0, r1, r2⟩, ⟨t0, t1, t2⟩⟩ := HX.out v11 HB811.out
        clear hb11
        go_wp2_with fail
        cases oc
        · refine (KOC.out _ HB811.out).mono ?_
          rintro e v12 ⟨rfl, hb12⟩
          have HB812 : Hid (Below W8.heap.size W8 v12) := HB811.out.trans (hb12.mono HB811.out.size)
          clear p0 p1 p2 q0 q1 q2 r0 r1 r2 t0 t1 t2
          obtain ⟨⟨p0, p1, p2⟩, ⟨q0, q1, q2⟩, ⟨r0, r1, r2⟩, ⟨t0, t1, t2⟩⟩ := HX.out v12 HB812.out
          clear hb12
          go_wp2_with fail
          go_meet
          exact ⟨rfl, HB812.out⟩
        · by_cases hle : s.size + u.size ≤ 12
          · have hleI : (s.size : Int) + (u.size : Int) ≤ 12 := by omega
            have hwI : IntKind.i64.wrap ((s.size : Int) + (u.size : Int)) = (s.size : Int) + (u.size : Int) := by rw [IntKind.wrap_i64]; omega
            rw [HPC.out (by simp) (by simp) (by simp) hle] at KC
            refine (KOC.out _ HB811.out).mono ?_
            rintro e v12 ⟨rfl, hb12⟩
            have HB812 : Hid (Below W8.heap.size W8 v12) := HB811.out.trans (hb12.mono HB811.out.size)
            clear p0 p1 p2 q0 q1 q2 r0 r1 r2 t0 t1 t2
            obtain ⟨⟨p0, p1, p2⟩, ⟨q0, q1, q2⟩, ⟨r0, r1, r2⟩, ⟨t0, t1, t2⟩⟩ := HX.out v12 HB812.out
            clear hb12
            go_wp2_with fail
            refine (KC.out _ HB812.out).mono ?_
            rintro e v13 ⟨rfl, hb13⟩
            have HB813 : Hid (Below W8.heap.size W8 v13) := HB812.out.trans (hb13.mono HB812.out.size)
            clear p0 p1 p2 q0 q1 q2 r0 r1 r2 t0 t1 t2
            obtain ⟨⟨p0, p1, p2⟩, ⟨q0, q1, q2⟩, ⟨r0, r1, r2⟩, ⟨t0, t1, t2⟩⟩ := HX.out v13 HB813.out
            clear hb13
            go_wp2_with fail
            go_meet
            exact ⟨rfl, HB813.out⟩
          · have hleI : ¬ (s.size : Int) + (u.size : Int) ≤ 12 := by omega
            have hwI : IntKind.i64.wrap ((s.size : Int) + (u.size : Int)) = (s.size : Int) + (u.size : Int) := by rw [IntKind.wrap_i64]; omega
            refine (KOC.out _ HB811.out).mono ?_
            rintro e v12 ⟨rfl, hb12⟩
            have HB812 : Hid (Below W8.heap.size W8 v12) := HB811.out.trans (hb12.mono HB811.out.size)
            clear p0 p1 p2 q0 q1 q2 r0 r1 r2 t0 t1 t2
            obtain ⟨⟨p0, p1, p2⟩, ⟨q0, q1, q2⟩, ⟨r0, r1, r2⟩, ⟨t0, t1, t2⟩⟩ := HX.out v12 HB812.out
            clear hb12
            go_wp2_with fail
            go_meet
            exact ⟨rfl, HB812.out⟩
  case rest =>
  rename World => v14
  obtain ⟨rfl, hb14⟩ := hcut
  have HB814 : Hid (Below W8.heap.size W8 v14) := hb14
  clear hb14 p0 p1 p2 q0 q1 q2 r0 r1 r2 t0 t1 t2
  obtain ⟨⟨p0, p1, p2⟩, ⟨q0, q1, q2⟩, ⟨r0, r1, r2⟩, ⟨t0, t1, t2⟩⟩ := HX.out v14 HB814.out
  cases pb
  · go_wp2_with fail
    go_ret
    exact ⟨rfl, HB8.out.trans (HB814.out.mono HB8.out.size)⟩
  · go_wp2_with fail
    cases od
    · refine (KOD.out _ HB814.out).mono ?_
      rintro e v15 ⟨rfl, hb15⟩
      have HB815 : Hid (Below W8.heap.size W8 v15) := HB814.out.trans (hb15.mono HB814.out.size)
      clear p0 p1 p2 q0 q1 q2 r0 r1 r2 t0 t1 t2
      obtain ⟨⟨p0, p1, p2⟩, ⟨q0, q1, q2⟩, ⟨r0, r1, r2⟩, ⟨t0, t1, t2⟩⟩ := HX.out v15 HB815.out
      clear hb15
      go_wp2_with fail
      go_ret
      exact ⟨rfl, HB8.out.trans (HB815.out.mono HB8.out.size)⟩
    · by_cases h4 : 4 < s.size
      · have h4I : (4 : Int) < (s.size : Int) := by omega
        refine (KOD.out _ HB814.out).mono ?_
        rintro e v15 ⟨rfl, hb15⟩
        have HB815 : Hid (Below W8.heap.size W8 v15) := HB814.out.trans (hb15.mono HB814.out.size)
        clear p0 p1 p2 q0 q1 q2 r0 r1 r2 t0 t1 t2
        obtain ⟨⟨p0, p1, p2⟩, ⟨q0, q1, q2⟩, ⟨r0, r1, r2⟩, ⟨t0, t1, t2⟩⟩ := HX.out v15 HB815.out
        clear hb15
        go_wp2_with fail
        go_ret
        exact ⟨rfl, HB8.out.trans (HB815.out.mono HB8.out.size)⟩
      · have h4I : ¬ (4 : Int) < (s.size : Int) := by omega
        obtain ⟨g1, g2, g3⟩ := HPD.out (by simp) (by simp) (by omega)
        have KD1 := KD.out ⟨#[]⟩
        have KD2 := KD.out s
        have KD3 := KD.out (s ++ s ++ s)
        rw [g1] at KD1
        rw [g2] at KD2
        rw [g3] at KD3
        have KE1 : Hid (∀ V, Below W8.heap.size W8 V → _) := KD1
        have KE2 : Hid (∀ V, Below W8.heap.size W8 V → _) := KD2
        have KE3 : Hid (∀ V, Below W8.heap.size W8 V → _) := KD3
        clear KD1 KD2 KD3 g1 g2 g3 KD
        refine (KOD.out _ HB814.out).mono ?_
        rintro e v15 ⟨rfl, hb15⟩
        have HB815 : Hid (Below W8.heap.size W8 v15) := HB814.out.trans (hb15.mono HB814.out.size)
        clear p0 p1 p2 q0 q1 q2 r0 r1 r2 t0 t1 t2
        obtain ⟨⟨p0, p1, p2⟩, ⟨q0, q1, q2⟩, ⟨r0, r1, r2⟩, ⟨t0, t1, t2⟩⟩ := HX.out v15 HB815.out
        clear hb15
        go_wp2_with fail
        refine (KE1.out _ HB815.out).mono ?_
        rintro e v16 ⟨rfl, hb16⟩
        have HB816 : Hid (Below W8.heap.size W8 v16) := HB815.out.trans (hb16.mono HB815.out.size)
        clear p0 p1 p2 q0 q1 q2 r0 r1 r2 t0 t1 t2
        obtain ⟨⟨p0, p1, p2⟩, ⟨q0, q1, q2⟩, ⟨r0, r1, r2⟩, ⟨t0, t1, t2⟩⟩ := HX.out v16 HB816.out
        clear hb16
        go_wp2_with fail
        refine (KE2.out _ HB816.out).mono ?_
        rintro e v17 ⟨rfl, hb17⟩
        have HB817 : Hid (Below W8.heap.size W8 v17) := HB816.out.trans (hb17.mono HB816.out.size)
        clear p0 p1 p2 q0 q1 q2 r0 r1 r2 t0 t1 t2
        obtain ⟨⟨p0, p1, p2⟩, ⟨q0, q1, q2⟩, ⟨r0, r1, r2⟩, ⟨t0, t1, t2⟩⟩ := HX.out v17 HB817.out
        clear hb17
        go_wp2_with fail
        refine (KE3.out _ HB817.out).mono ?_
        rintro e v18 ⟨rfl, hb18⟩
        have HB818 : Hid (Below W8.heap.size W8 v18) := HB817.out.trans (hb18.mono HB817.out.size)
        clear p0 p1 p2 q0 q1 q2 r0 r1 r2 t0 t1 t2
        obtain ⟨⟨p0, p1, p2⟩, ⟨q0, q1, q2⟩, ⟨r0, r1, r2⟩, ⟨t0, t1, t2⟩⟩ := HX.out v18 HB818.out
        clear hb18
        go_wp2_with fail
        go_ret
        exact ⟨rfl, HB8.out.trans (HB818.out.mono HB8.out.size)⟩
end Go.Proofs.YtkbhljpdneibaaaDoor

