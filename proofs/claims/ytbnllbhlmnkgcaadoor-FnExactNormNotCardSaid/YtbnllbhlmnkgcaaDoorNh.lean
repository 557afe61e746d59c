/- The walks of notOfNot, makeStar and makeNot. -/
import Derived.Test.YtbnllbhlmnkgcaaDoorNg
namespace Go.Proofs.YtbnllbhlmnkgcaaDoor
open Go.RowKit Go.Shelf
set_option linter.unusedVariables false
set_option linter.unusedSimpArgs false

/-- what the rule of a not of a not tells -/
def notK (S : Sh) : Sh := if S.kind = 7 then S.kidAt 0 else zeroS 0

set_option maxHeartbeats 2000000 in
theorem notOfNot_any {B : Nat → Prop} (S : Sh) (M : Mx) (w : World) (h : In B w S M) (hm0 : S.kind = 7 → 0 < S.m) : Calls Tryd.prog 149 #[vx S M] w (RuleRes B (notK S) (S.kind == 7) w) := by
  obtain ⟨a, b, off, c, a', b', off', c', e1, _, _, _, e2, hma, hml, hkk⟩ := h.parts
  have hv : vx S M = .agg #[.int .i64 S.kind, .slice a S.n c, .slice a' S.m c'] := by rw [vx, e1, e2]
  rw [hv]
  obtain ⟨kd, hkd⟩ : ∃ kd, S.kind = kd := ⟨_, rfl⟩
  have HKD : Hid (S.kind = kd) := hkd
  rw [hkd] at hm0 ⊢
  by_cases h7 : kd = 7
  · have hk7 : (kd != 7) = false := by simpa using h7
    have HK7 : Hid ((kd == 7) = true) := by simpa [Hid] using h7
    have hpos : 0 < S.m := hm0 h7
    have HR : Hid (notK S = S.kidAt 0) := by rw [Hid, notK, HKD.out, if_pos h7]
    obtain ⟨k1, hin⟩ := hkk 0 hpos
    obtain ⟨c0, c1, c2⟩ := k1
    obtain ⟨x1, x2, x3, x4, x5, x6, x7, x8, f1, _, _, _, f2, _⟩ := hin.parts
    rw [f1] at c1
    rw [f2] at c2
    have HVK : Hid (vx (S.kidAt 0) (M.kid 0) = .agg #[.int .i64 (S.kidAt 0).kind, .slice x1 (S.kidAt 0).n x4, .slice x5 (S.kidAt 0).m x8]) := by rw [Hid, vx, f1, f2]
    have HIN : Hid (In B w (S.kidAt 0) (M.kid 0)) := hin
    obtain ⟨ksk, hksk⟩ : ∃ ksk, (S.kidAt 0).kind = ksk := ⟨_, rfl⟩
    obtain ⟨ksn, hksn⟩ : ∃ ksn, (S.kidAt 0).n = ksn := ⟨_, rfl⟩
    obtain ⟨ksm, hksm⟩ : ∃ ksm, (S.kidAt 0).m = ksm := ⟨_, rfl⟩
    rw [hksk, hksn, hksm] at HVK
    rw [hksk] at c0
    rw [hksn] at c1
    rw [hksm] at c2
    simp only [Nat.zero_mul, Nat.add_zero] at c0 c1 c2
    obtain ⟨rfl, _⟩ := hma hpos
    obtain ⟨n, hn⟩ : ∃ n, S.n = n := ⟨_, rfl⟩
    obtain ⟨m, hm⟩ : ∃ m, S.m = m := ⟨_, rfl⟩
    rw [hn, hm]
    rw [hm] at hpos hml
    have hposz : (0 : Int) < (m : Int) := by omega
    have hlt := World.block_lt_of_cell? _ _ c0
    have hb2 : Below w.heap.size w ((w.alloc (.cells #[.int .i64 kd, .slice a n c, .slice (some ⟨b', off', none⟩) m c'] 26)).alloc (.cells #[.int .i64 0, .slice none 0 0, .slice none 0 0] 26)) := below_two _ _ _
    have d0 := (hb2.cell (p := ⟨b', off', none⟩) hlt).trans c0
    have d1 := (hb2.cell (p := ⟨b', off' + 1, none⟩) hlt).trans c1
    have d2 := (hb2.cell (p := ⟨b', off' + 2, none⟩) hlt).trans c2
    clear h7 hv h e1 e2 hkd hn hm hkk hin f1 f2 hksk hksn hksm hma hm0 c0 c1 c2
    go_enter Tryd.func149, Tryd.ntmps149
    go_wp2_with fail
    refine bodyPost_ret (v := .tuple #[.agg #[.int .i64 ksk, .slice x1 ksn x4, .slice x5 ksm x8], .bool true]) (by simp [results, Tryd.results149, go_sem]) rfl ?_
    rw [HR.out, HK7.out]
    exact ⟨M.kid 0, by rw [HVK.out], (HIN.out.below (below_two _ _ _)).mono (fun k hk => .inl hk), below_two _ _ _⟩
  · have hk7 : (kd != 7) = true := by simpa using h7
    have HK7 : Hid ((kd == 7) = false) := by simpa [Hid] using h7
    have HR : Hid (notK S = zeroS 0) := by rw [Hid, notK, HKD.out, if_neg h7]
    obtain ⟨n, hn⟩ : ∃ n, S.n = n := ⟨_, rfl⟩
    obtain ⟨m, hm⟩ : ∃ m, S.m = m := ⟨_, rfl⟩
    rw [hn, hm]
    clear h7 hv h e1 e2 hkd hn hm hkk hma hm0
    go_enter Tryd.func149, Tryd.ntmps149
    go_wp2_with fail
    refine bodyPost_ret (v := .tuple #[.agg #[.int .i64 0, .slice none 0 0, .slice none 0 0], .bool false]) (by simp [results, Tryd.results149, go_sem]) rfl ?_
    rw [HR.out, HK7.out]
    exact ⟨Mx.no, rfl, zero_in _ _ _, below_two _ _ _⟩

set_option maxRecDepth 100000 in
set_option maxHeartbeats 2000000 in
theorem makeStar_any {B : Nat → Prop} (S : Sh) (M : Mx) (w : World) (h : In B w S M) (hB : ∀ k, B k → k < w.heap.size) : Calls Tryd.prog 102 #[vx S M] w (ShResB B (starR S) w) := by
  obtain ⟨k0, hk0, hBt, hlt, hR⟩ : ∃ k0 : Nat, k0 < 3 ∧ (fun i : Nat => if i = 0 then S.kind == 5 else if i = 1 then (S.kind == 2 || noB S) else true) k0 = true ∧ (∀ i, i < k0 → (fun i : Nat => if i = 0 then S.kind == 5 else if i = 1 then (S.kind == 2 || noB S) else true) i = false) ∧ (fun i : Nat => if i = 0 then S else if i = 1 then zeroS 2 else oneS 5 S) k0 = starR S := by
    by_cases h5 : S.kind = 5
    · exact ⟨0, by omega, by simp [h5], fun i hi => absurd hi (Nat.not_lt_zero _), by simp [starR, h5]⟩
    · by_cases h2 : S.kind = 2 ∨ noB S = true
      · refine ⟨1, by omega, by rcases h2 with h2 | h2 <;> simp [h2], fun i hi => ?_, by simp [starR, h5, h2]⟩
        obtain rfl : i = 0 := by omega
        simpa using h5
      · have h2' : S.kind ≠ 2 ∧ noB S = false := by
          refine ⟨fun e => h2 (.inl e), ?_⟩
          cases e : noB S with
          | true => exact absurd (.inr e) h2
          | false => rfl
        refine ⟨2, by omega, by simp, fun i hi => ?_, by simp [starR, h5, h2'.1, h2'.2]⟩
        rcases (show i = 0 ∨ i = 1 by omega) with rfl | rfl
        · simpa using h5
        · simp [h2'.1, h2'.2]
  obtain ⟨a, c, a', c', hv⟩ := h.value'
  obtain ⟨kd, hkd⟩ : ∃ kd, S.kind = kd := ⟨_, rfl⟩
  obtain ⟨n, hn⟩ : ∃ n, S.n = n := ⟨_, rfl⟩
  obtain ⟨m, hm⟩ : ∃ m, S.m = m := ⟨_, rfl⟩
  obtain ⟨W, hW⟩ : ∃ W, W = ((w.alloc (.cells #[.int .i64 kd, .slice a n c, .slice a' m c'] 26)).alloc (.cells #[.int .i64 0, .slice none 0 0, .slice none 0 0] 26)).alloc (.cells #[.func (.func 146) #[] #[], .func (.func 147) #[] #[], .func (.func 148) #[] #[]] 197) := ⟨_, rfl⟩
  have hbW : Below w.heap.size w W := by rw [hW]; exact (below_two _ _ _).trans ((below_new _ _).mono (by simp; omega))
  have hsW : W.heap.size = w.heap.size + 3 := by rw [hW]; simp
  have HFR : Hid (Calls Tryd.prog 145 #[.agg #[.int .i64 kd, .slice a n c, .slice a' m c'], .slice (some ⟨w.heap.size + 1 + 1, 0, none⟩) 3 3] W (ShResB B (starR S) W)) := by
    have hh := firstRule_any (B0 := B) S M W (h.below hbW) (fun k hk => by have := hB k hk; omega) 3 (w.heap.size + 1 + 1) (fun i => if i = 0 then 146 else if i = 1 then 147 else 148) (fun i : Nat => if i = 0 then S else if i = 1 then zeroS 2 else oneS 5 S) (fun i : Nat => if i = 0 then S.kind == 5 else if i = 1 then (S.kind == 2 || noB S) else true) k0 hk0 (by omega)
      (fun i hi => by
        rw [hW]
        rcases (show i = 0 ∨ i = 1 ∨ i = 2 by omega) with rfl | rfl | rfl
        · simp [go_sem]
        · simp [go_sem]
        · simp [go_sem])
      (fun i hi => by
        rcases (show i = 0 ∨ i = 1 ∨ i = 2 by omega) with rfl | rfl | rfl
        · exact enters146
        · exact enters147
        · exact enters148)
      (fun i hi w1 hb1 => by
        have hin1 : In B w1 S M := (h.below hbW).below hb1
        rcases (show i = 0 ∨ i = 1 ∨ i = 2 by omega) with rfl | rfl | rfl
        · exact starOfStar_any S M w1 hin1
        · exact starOfNoByte_any S M w1 hin1
        · exact starOfAny_any S M w1 hin1)
      hBt hlt
    dsimp only at hR
    rw [hR, hv, hkd, hn, hm] at hh
    exact hh
  have HRBW : Hid (Rb W (w.heap.size + 1)) := by
    have := ((Rb.new (w.alloc (.cells #[.int .i64 kd, .slice a n c, .slice a' m c'] 26)) (.int .i64 0) (.slice none 0 0) (.slice none 0 0))).of_block ((below_new ((w.alloc (.cells #[.int .i64 kd, .slice a n c, .slice a' m c'] 26)).alloc (.cells #[.int .i64 0, .slice none 0 0, .slice none 0 0] 26)) (.cells #[.func (.func 146) #[] #[], .func (.func 147) #[] #[], .func (.func 148) #[] #[]] 197)).block _ (by simp))
    rw [size_new, ← hW] at this
    exact this
  have HBW : Hid (Below w.heap.size w W) := hbW
  rw [hv, hkd, hn, hm]
  clear hv hkd hn hm h hbW hBt hlt hR
  go_enter Tryd.func102, Tryd.ntmps102
  go_wp2_with fail
  rw [← hW]
  clear hW
  refine HFR.out.mono ?_
  rintro e w1 ⟨M1, rfl, hin1, hb1⟩
  obtain ⟨x1, x2, x3, x4, hv1⟩ := hin1.value'
  have HV1 : Hid (vx (starR S) M1 = .agg #[.int .i64 (starR S).kind, .slice x1 (starR S).n x2, .slice x3 (starR S).m x4]) := hv1
  rw [hv1]
  have HIN1 : Hid (In (fun k => B k ∨ W.heap.size ≤ k) w1 (starR S) M1) := hin1
  have HRB1 : Hid (Rb w1 (w.heap.size + 1)) := HRBW.out.of_block (hb1.block _ HRBW.out.lt)
  have HBW1 : Hid (Below w.heap.size w w1) := HBW.out.trans (hb1.mono HBW.out.size)
  obtain ⟨⟨b0', e0⟩, ⟨b1', e1⟩, ⟨b2', e2⟩, ef⟩ := HRB1.out.cells
  clear hin1 hv1 hb1
  go_wp2_with fail
  refine bodyPost_ret (v := .agg #[.int .i64 (starR S).kind, .slice x1 (starR S).n x2, .slice x3 (starR S).m x4]) (by simp [results, Tryd.results102, go_sem, e0, e1, e2]) rfl ?_
  refine ⟨M1, by rw [HV1.out], (in3 (fun x hx => ?_) _ _ _ HIN1.out).mono (fun x hx => hx.imp (fun h => h) (fun h => by omega)), ((HBW1.out.setCell (by simp) _).setCell (by simp) _).setCell (by simp) _⟩
  rcases hx with hx | hx
  · have := hB x hx; omega
  · omega

set_option maxRecDepth 100000 in
set_option maxHeartbeats 2000000 in
theorem makeNot_any {B : Nat → Prop} (S : Sh) (M : Mx) (w : World) (h : In B w S M) (hB : ∀ k, B k → k < w.heap.size) (hm0 : S.kind = 7 → 0 < S.m) : Calls Tryd.prog 104 #[vx S M] w (ShResB B (notR S) w) := by
  obtain ⟨k0, hk0, hBt, hlt, hR⟩ : ∃ k0 : Nat, k0 < 2 ∧ (fun i : Nat => if i = 0 then S.kind == 7 else true) k0 = true ∧ (∀ i, i < k0 → (fun i : Nat => if i = 0 then S.kind == 7 else true) i = false) ∧ (fun i : Nat => if i = 0 then notK S else oneS 7 S) k0 = notR S := by
    by_cases h7 : S.kind = 7
    · exact ⟨0, by omega, by simp [h7], fun i hi => absurd hi (Nat.not_lt_zero _), by simp [notR, notK, h7]⟩
    · refine ⟨1, by omega, by simp, fun i hi => ?_, by simp [notR, h7]⟩
      obtain rfl : i = 0 := by omega
      simpa using h7
  obtain ⟨a, c, a', c', hv⟩ := h.value'
  obtain ⟨kd, hkd⟩ : ∃ kd, S.kind = kd := ⟨_, rfl⟩
  obtain ⟨n, hn⟩ : ∃ n, S.n = n := ⟨_, rfl⟩
  obtain ⟨m, hm⟩ : ∃ m, S.m = m := ⟨_, rfl⟩
  obtain ⟨W, hW⟩ : ∃ W, W = ((w.alloc (.cells #[.int .i64 kd, .slice a n c, .slice a' m c'] 26)).alloc (.cells #[.int .i64 0, .slice none 0 0, .slice none 0 0] 26)).alloc (.cells #[.func (.func 149) #[] #[], .func (.func 150) #[] #[]] 197) := ⟨_, rfl⟩
  have hbW : Below w.heap.size w W := by rw [hW]; exact (below_two _ _ _).trans ((below_new _ _).mono (by simp; omega))
  have hsW : W.heap.size = w.heap.size + 3 := by rw [hW]; simp
  have HFR : Hid (Calls Tryd.prog 145 #[.agg #[.int .i64 kd, .slice a n c, .slice a' m c'], .slice (some ⟨w.heap.size + 1 + 1, 0, none⟩) 2 2] W (ShResB B (notR S) W)) := by
    have hh := firstRule_any (B0 := B) S M W (h.below hbW) (fun k hk => by have := hB k hk; omega) 2 (w.heap.size + 1 + 1) (fun i => if i = 0 then 149 else 150) (fun i : Nat => if i = 0 then notK S else oneS 7 S) (fun i : Nat => if i = 0 then S.kind == 7 else true) k0 hk0 (by omega)
      (fun i hi => by
        rw [hW]
        rcases (show i = 0 ∨ i = 1 by omega) with rfl | rfl
        · simp [go_sem]
        · simp [go_sem])
      (fun i hi => by
        rcases (show i = 0 ∨ i = 1 by omega) with rfl | rfl
        · exact enters149
        · exact enters150)
      (fun i hi w1 hb1 => by
        have hin1 : In B w1 S M := (h.below hbW).below hb1
        rcases (show i = 0 ∨ i = 1 by omega) with rfl | rfl
        · exact notOfNot_any S M w1 hin1 hm0
        · exact notOfAny_any S M w1 hin1)
      hBt hlt
    dsimp only at hR
    rw [hR, hv, hkd, hn, hm] at hh
    exact hh
  have HRBW : Hid (Rb W (w.heap.size + 1)) := by
    have := ((Rb.new (w.alloc (.cells #[.int .i64 kd, .slice a n c, .slice a' m c'] 26)) (.int .i64 0) (.slice none 0 0) (.slice none 0 0))).of_block ((below_new ((w.alloc (.cells #[.int .i64 kd, .slice a n c, .slice a' m c'] 26)).alloc (.cells #[.int .i64 0, .slice none 0 0, .slice none 0 0] 26)) (.cells #[.func (.func 149) #[] #[], .func (.func 150) #[] #[]] 197)).block _ (by simp))
    rw [size_new, ← hW] at this
    exact this
  have HBW : Hid (Below w.heap.size w W) := hbW
  rw [hv, hkd, hn, hm]
  clear hv hkd hn hm h hbW hBt hlt hR hm0
  go_enter Tryd.func104, Tryd.ntmps104
  go_wp2_with fail
  rw [← hW]
  clear hW
  refine HFR.out.mono ?_
  rintro e w1 ⟨M1, rfl, hin1, hb1⟩
  obtain ⟨x1, x2, x3, x4, hv1⟩ := hin1.value'
  have HV1 : Hid (vx (notR S) M1 = .agg #[.int .i64 (notR S).kind, .slice x1 (notR S).n x2, .slice x3 (notR S).m x4]) := hv1
  rw [hv1]
  have HIN1 : Hid (In (fun k => B k ∨ W.heap.size ≤ k) w1 (notR S) M1) := hin1
  have HRB1 : Hid (Rb w1 (w.heap.size + 1)) := HRBW.out.of_block (hb1.block _ HRBW.out.lt)
  have HBW1 : Hid (Below w.heap.size w w1) := HBW.out.trans (hb1.mono HBW.out.size)
  obtain ⟨⟨b0', e0⟩, ⟨b1', e1⟩, ⟨b2', e2⟩, ef⟩ := HRB1.out.cells
  clear hin1 hv1 hb1
  go_wp2_with fail
  refine bodyPost_ret (v := .agg #[.int .i64 (notR S).kind, .slice x1 (notR S).n x2, .slice x3 (notR S).m x4]) (by simp [results, Tryd.results104, go_sem, e0, e1, e2]) rfl ?_
  refine ⟨M1, by rw [HV1.out], (in3 (fun x hx => ?_) _ _ _ HIN1.out).mono (fun x hx => hx.imp (fun h => h) (fun h => by omega)), ((HBW1.out.setCell (by simp) _).setCell (by simp) _).setCell (by simp) _⟩
  rcases hx with hx | hx
  · have := hB x hx; omega
  · omega
end Go.Proofs.YtbnllbhlmnkgcaaDoor
