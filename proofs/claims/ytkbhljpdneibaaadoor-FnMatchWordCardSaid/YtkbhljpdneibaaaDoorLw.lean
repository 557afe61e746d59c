/- The walks of DrawMatchWord and of the law FnMatchWord. -/
import Derived.Test.YtkbhljpdneibaaaDoorLc
import Derived.Deep.RegionHeld
namespace Go.Proofs.YtkbhljpdneibaaaDoor
open Go.RowKit
set_option linter.unusedVariables false
set_option linter.unusedSimpArgs false

/-- how long a drawn text may be -/
def len5 (i : Nat) : Nat := ([0, 1, 12, 13, 40] : List Nat).getD i 0
theorem len5_at : ∀ i, i < 5 → (#[.int .i64 0, .int .i64 1, .int .i64 12, .int .i64 13, .int .i64 40] : Array Value)[i]? = some (.int .i64 ((len5 i : Nat) : Int)) := fun i hi => match i, hi with
  | 0, _ => rfl
  | 1, _ => rfl
  | 2, _ => rfl
  | 3, _ => rfl
  | 4, _ => rfl
theorem len5_le : ∀ i, i < 5 → len5 i ≤ 40 := fun i hi => match i, hi with
  | 0, _ => by decide
  | 1, _ => by decide
  | 2, _ => by decide
  | 3, _ => by decide
  | 4, _ => by decide
set_option maxRecDepth 100000 in
set_option maxHeartbeats 4000000 in
theorem drawWord_any (a : Option Addr) (n c bb off : Nat) (V : Nat → Nat) (w : World) (hn : n ≤ 1048576) (hc : n ≤ c) (hcc : c ≤ 9223372036854775807) (ha : 0 < n → a = some ⟨bb, off, none⟩ ∧ bb < w.heap.size) (hV : ∀ i, i < n → V i ≤ 255 ∧ w.cell? ⟨bb, off + i, none⟩ = some (.int .u8 (V i : Int))) :
    Calls Tryd.prog 19 #[.slice a n c] w fun e w' => ∃ s : ByteArray, e = .returned (.string s) ∧ s.size ≤ 40 ∧ Below w.heap.size w w' := by
  have HO : Hid (Calls Tryd.prog 21 #[.slice a n c] w fun e w' => e = .returned (.pointer (some ⟨w.heap.size, 0, none⟩)) ∧ Rdr w' w.heap.size 0 ∧ Below w.heap.size w w') := open_big a n c bb off V w hn hc hcc ha hV
  clear ha hV
  go_enter Tryd.func19, Tryd.ntmps19
  go_wp2_with fail
  refine HO.out.mono ?_
  rintro e w1 ⟨rfl, hr1, hb1⟩
  have hl := hr1.lt
  have HB1 : Hid (Below w.heap.size w w1) := hb1
  have HN : Hid (Calls Tryd.prog 30 #[.pointer (some ⟨w.heap.size, 0, none⟩), .slice (some ⟨w1.heap.size, 0, none⟩) 5 5] (w1.alloc (.cells #[.int .i64 0, .int .i64 1, .int .i64 12, .int .i64 13, .int .i64 40] 3)) (OneRes (fun i => .int .i64 ((len5 i : Nat) : Int)) 5 w.heap.size 0 (w1.alloc (.cells #[.int .i64 0, .int .i64 1, .int .i64 12, .int .i64 13, .int .i64 40] 3)))) :=
    num_any w.heap.size 0 (by omega) w1.heap.size 5 5 (fun i => ((len5 i : Nat) : Int)) (by omega) (by omega) _ (hr1.below (below_new _ _)) (by omega) (fun i hi => new_cell _ _ _ _ _ (len5_at i hi))
  clear hr1 hb1 HO
  go_wp2_with fail
  refine HN.out.mono ?_
  rintro e w2 ⟨j, hj, he, hr2, hg2⟩
  have hj40 := len5_le j hj
  obtain ⟨kk, hkk⟩ : ∃ kk : Nat, kk = len5 j := ⟨_, rfl⟩
  rw [← hkk] at hj40
  obtain rfl : e = .returned (.int .i64 (kk : Int)) := by rw [hkk]; exact he
  have HB2 : Hid (Below w.heap.size w w2) := below_grown (HB1.out.trans ((below_new w1 (.cells #[.int .i64 0, .int .i64 1, .int .i64 12, .int .i64 13, .int .i64 40] 3)).mono HB1.out.size)) hg2 (Nat.le_refl _)
  clear hr2 hg2 he hkk HN
  go_wp2_with fail
  refine (many_any kk (by omega) _).mono ?_
  rintro e w3 ⟨s, rfl, hs, hw3⟩
  subst w3
  go_wp2_with fail
  go_ret
  exact ⟨s, rfl, by omega, HB2.out⟩

set_option maxRecDepth 100000 in
set_option maxHeartbeats 8000000 in
theorem lawWord (a : Option Addr) (n c bb off : Nat) (V : Nat → Nat) (a2 : Option Addr) (n2 c2 bb2 off2 : Nat) (V2 : Nat → Nat) (w : World) (t : TypeId) (ea : Addr) (hE : Err w t ea) (hn : n ≤ 9223372036854775807) (hc : n ≤ c) (hcc : c ≤ 9223372036854775807) (ha : 0 < n → a = some ⟨bb, off, none⟩ ∧ bb < w.heap.size) (hV : ∀ i, i < n → V i ≤ 255 ∧ w.cell? ⟨bb, off + i, none⟩ = some (.int .u8 (V i : Int))) (hn2 : n2 ≤ 9223372036854775807) (hc2 : n2 ≤ c2) (hcc2 : c2 ≤ 9223372036854775807) (ha2 : 0 < n2 → a2 = some ⟨bb2, off2, none⟩ ∧ bb2 < w.heap.size) (hV2 : ∀ i, i < n2 → V2 i ≤ 255 ∧ w.cell? ⟨bb2, off2 + i, none⟩ = some (.int .u8 (V2 i : Int))) :
    Calls Tryd.prog 6 #[.slice a n c, .slice a2 n2 c2] w fun e w' => e = .returned (.bool true) ∧ Below w.heap.size w w' := by
  by_cases hbig : 1048576 < n
  · have hb : (1048576 : Int) < (n : Int) := by omega
    clear ha hV ha2 hV2
    go_enter Tryd.func6, Tryd.ntmps6
    go_wp2_with fail
    go_ret
    exact ⟨rfl, Below.refl _ _⟩
  by_cases hbig2 : 1048576 < n2
  · have hb : ¬ (1048576 : Int) < (n : Int) := by omega
    have hb2 : (1048576 : Int) < (n2 : Int) := by omega
    clear ha hV ha2 hV2
    go_enter Tryd.func6, Tryd.ntmps6
    go_wp2_with fail
    go_ret
    exact ⟨rfl, Below.refl _ _⟩
  have hb : ¬ (1048576 : Int) < (n : Int) := by omega
  have hb2 : ¬ (1048576 : Int) < (n2 : Int) := by omega
  have HD : Hid (Calls Tryd.prog 12 #[.slice a2 n2 c2] w (DrawRes w)) := drawIs_any a2 n2 c2 bb2 off2 V2 w (by omega) hc2 hcc2 ha2 hV2
  have HD2 : Hid (∀ w', Below w.heap.size w w' → Calls Tryd.prog 19 #[.slice a n c] w' fun e w'' => ∃ s : ByteArray, e = .returned (.string s) ∧ s.size ≤ 40 ∧ Below w'.heap.size w' w'') := fun w' hb => drawWord_any a n c bb off V w' (by omega) hc hcc (bytes_below ha hV hb).1 (bytes_below ha hV hb).2
  have HE : Hid (Err w t ea) := hE
  clear ha hV hE hbig ha2 hV2 hbig2
  go_enter Tryd.func6, Tryd.ntmps6
  go_wp2_with fail
  refine HD.out.mono ?_
  rintro e w1 ⟨S, M, s0, rfl, hin1, hcS, hs13, hb1⟩
  obtain ⟨sa, sn, sc, ka, km, kc, es, ek⟩ := hin1.slices
  have HVA : Hid (vx S M = .agg #[.int .i64 S.kind, .slice sa sn sc, .slice ka km kc]) := by rw [Hid, vx, es, ek]
  obtain ⟨W2, hW2⟩ : ∃ V, V = w1.alloc (.cells #[.int .i64 S.kind, .slice sa sn sc, .slice ka km kc] 26) := ⟨_, rfl⟩
  have hb12 : Below w1.heap.size w1 W2 := by rw [hW2]; exact below_new _ _
  have HB2 : Hid (Below w.heap.size w W2) := hb1.trans (hb12.mono hb1.size)
  have HXA : Hid (W2.heap[w1.heap.size]? = some (.cells #[.int .i64 S.kind, .slice sa sn sc, .slice ka km kc] 26 (0, 0))) := by rw [hW2]; exact al_at _ _
  have HIA : Hid (In (Soft W2) W2 S M) := (hin1.below hb12).mono (fun k hk => hk.below hb12)
  have HCS : Hid (cnt S ≤ 256100) := hcS
  rw [HVA.out]
  clear hin1 hcS es ek hb1 hb12
  go_wp2_with fail
  rw [← hW2]
  clear hW2
  refine (HD2.out W2 HB2.out).mono ?_
  rintro e w3 ⟨s, rfl, hs40, hb3⟩
  have hbA := (hb3.block _ (show w1.heap.size < W2.heap.size by rcases Nat.lt_or_ge w1.heap.size W2.heap.size with h' | h'; exact h'; exact absurd HXA.out (by simp [Array.getElem?_eq_none h']))).trans HXA.out
  obtain ⟨_, x0, x1, x2, xf⟩ := boxed hbA
  have lxA : w1.heap.size < w3.heap.size := World.block_lt_of_cell? _ _ x0
  have lxA1 : w1.heap.size < w3.heap.size + 1 := by omega
  have lxA6 : ¬ w1.heap.size = w3.heap.size := by omega
  obtain ⟨W8, hW8⟩ : ∃ V, V = (w3.alloc (.cells #[.int .i64 S.kind, .slice sa sn sc, .slice ka km kc] 26)).alloc (.cells #[.int .i64 7, .slice none 0 0, .slice (some ⟨w3.heap.size, 0, none⟩) 1 1] 26) := ⟨_, rfl⟩
  have HB38 : Hid (Below w3.heap.size w3 W8) := by
    rw [Hid, hW8]
    exact bl_al (bl_al (Below.refl _ _) _) _
  have HW8 : Hid (W8.heap[w3.heap.size]? = some (.cells #[.int .i64 S.kind, .slice sa sn sc, .slice ka km kc] 26) ∧ W8.heap[w3.heap.size + 1]? = some (.cells #[.int .i64 7, .slice none 0 0, .slice (some ⟨w3.heap.size, 0, none⟩) 1 1] 26)) := by
    rw [Hid, hW8]
    refine ⟨al_old _ _ (al_at _ _), ?_⟩
    have h := al_at (w3.alloc (.cells #[.int .i64 S.kind, .slice sa sn sc, .slice ka km kc] 26)) (.cells #[.int .i64 7, .slice none 0 0, .slice (some ⟨w3.heap.size, 0, none⟩) 1 1] 26)
    rwa [size_new] at h
  have HB8 : Hid (Below w.heap.size w W8) := (HB2.out.trans (hb3.mono HB2.out.size)).trans (HB38.out.mono (Nat.le_trans HB2.out.size hb3.size))
  have HIS8 : Hid (In AnyB W8 S M) := ((HIA.out.below hb3).below HB38.out).mono (fun _ _ => trivial)
  have HID : Hid (In AnyB W8 (one1 7 S M) (nodeM (.slice (some ⟨w3.heap.size, 0, none⟩) 1 1) [(S, M)])) := by
    refine node_inB (ks := [(S, M)]) 7 (fun i v hi => ?_) trivial (fun p hp => ?_) (by simp)
    · have hcl : (encK [(S, M)]) = [.int .i64 S.kind, .slice sa sn sc, .slice ka km kc] := by
        have e1 := HVA.out
        simp only [vx, Value.agg.injEq, Array.mk.injEq, List.cons.injEq, true_and, and_true] at e1
        simp [encK, enc3, e1.1, e1.2]
      rw [hcl] at hi
      simp only [World.cell?, HW8.out.1]
      simpa using hi
    · have hq1 : p = (S, M) := List.mem_singleton.1 hp
      subst hq1
      exact HIS8.out
  have HX : Hid (∀ V, Below W8.heap.size W8 V → (V.cell? ⟨w1.heap.size, 0, none⟩ = some (.int .i64 S.kind) ∧ V.cell? ⟨w1.heap.size, 1, none⟩ = some (.slice sa sn sc) ∧ V.cell? ⟨w1.heap.size, 2, none⟩ = some (.slice ka km kc)) ∧ (V.cell? ⟨w3.heap.size + 1, 0, none⟩ = some (.int .i64 7) ∧ V.cell? ⟨w3.heap.size + 1, 1, none⟩ = some (.slice none 0 0) ∧ V.cell? ⟨w3.heap.size + 1, 2, none⟩ = some (.slice (some ⟨w3.heap.size, 0, none⟩) 1 1))) := fun V hb => by
    have kk : ∀ b o, W8.heap[b]? = some o → V.heap[b]? = some o := fun b o h => (hb.block b (by rcases Nat.lt_or_ge b W8.heap.size with h' | h'; exact h'; exact absurd h (by simp [Array.getElem?_eq_none h']))).trans h
    have yA := kk _ _ ((HB38.out.block _ lxA).trans hbA)
    obtain ⟨_, p0, p1, p2, _⟩ := boxed yA
    obtain ⟨_, t0, t1, t2, _⟩ := boxed (kk _ _ HW8.out.2)
    exact ⟨⟨p0, p1, p2⟩, ⟨t0, t1, t2⟩⟩
  have HER : Hid (∀ V, Below W8.heap.size W8 V → Err V t ea) := fun V hb => (HE.out.below HB8.out).below hb
  have HVD : Hid (vx (one1 7 S M) (nodeM (.slice (some ⟨w3.heap.size, 0, none⟩) 1 1) [(S, M)]) = .agg #[.int .i64 7, .slice none 0 0, .slice (some ⟨w3.heap.size, 0, none⟩) 1 1]) := rfl
  have KA : Hid (∀ V, Below W8.heap.size W8 V → Calls Tryd.prog 13 #[.agg #[.int .i64 S.kind, .slice sa sn sc, .slice ka km kc], .string s] V fun e w' => e = .returned (.bool (isB S s)) ∧ Below V.heap.size V w') := fun V hb => by
    have h := implMatchIs_any S M s V t ea (HER.out V hb) (HIS8.out.below hb) (by have := HCS.out; omega)
    rwa [HVA.out] at h
  have KOD : Hid (∀ V, Below W8.heap.size W8 V → Calls Tryd.prog 10 #[.agg #[.int .i64 7, .slice none 0 0, .slice (some ⟨w3.heap.size, 0, none⟩) 1 1]] V fun e w' => e = .returned (.bool (okR (one1 7 S M))) ∧ Below V.heap.size V w') := fun V hb => by
    have h := implRexOk_any (one1 7 S M) _ V t ea (HER.out V hb) (HID.out.below hb) (by rw [cnt_one1]; have := HCS.out; omega)
    rwa [HVD.out] at h
  have KD : Hid (∀ V, Below W8.heap.size W8 V → Calls Tryd.prog 13 #[.agg #[.int .i64 7, .slice none 0 0, .slice (some ⟨w3.heap.size, 0, none⟩) 1 1], .string s] V fun e w' => e = .returned (.bool (isB (one1 7 S M) s)) ∧ Below V.heap.size V w') := fun V hb => by
    have h := implMatchIs_any (one1 7 S M) _ s V t ea (HER.out V hb) (HID.out.below hb) (by rw [cnt_one1]; have := HCS.out; omega)
    rwa [HVD.out] at h
  have HPW : Hid (okR (one1 7 S M) = true → (s.size ≤ 12 → isB (one1 7 S M) s = !isB S s) ∧ (12 < s.size → isB S s = false ∧ isB (one1 7 S M) s = false)) := fun h => not_word h
  have HB88 : Hid (Below W8.heap.size W8 W8) := Below.refl _ _
  have HIW : Hid (∀ V, Calls Tryd.prog 15 #[.string s] V fun e w' => e = .returned (.bool (decide ((s.size : Int) ≤ 12))) ∧ w' = V) := implWord_any s
  have HSW : Hid (∀ V, Calls Tryd.prog 16 #[.string s] V fun e w' => e = .returned (.bool (decide ((s.size : Int) ≤ 12))) ∧ w' = V) := specWord_any s
  obtain ⟨b1, hb1⟩ : ∃ b, isB S s = b := ⟨_, rfl⟩
  obtain ⟨b2, hb2'⟩ : ∃ b, isB (one1 7 S M) s = b := ⟨_, rfl⟩
  obtain ⟨od, hod⟩ : ∃ b, okR (one1 7 S M) = b := ⟨_, rfl⟩
  rw [hb1] at KA HPW
  rw [hb2'] at KD HPW
  rw [hod] at KOD HPW
  clear HVD hb3 HIA HXA hbA HD HD2 HIS8 HID HER HE HW8 HB38 HCS HVA hb1 hb2' hod
  by_cases hle : s.size ≤ 12
  · have hleI : (s.size : Int) ≤ 12 := by omega
    rw [show decide ((s.size : Int) ≤ 12) = true from decide_eq_true hleI] at HIW HSW
    go_wp2_with fail
    refine (HIW.out _).mono ?_
    rintro e v1 ⟨rfl, hv1⟩
    subst v1
    go_wp2_with fail
    refine (HSW.out _).mono ?_
    rintro e v2 ⟨rfl, hv2⟩
    subst v2
    go_wp2_with fail
    rw [← hW8]
    clear hW8 x0 x1 x2 xf
    cases od
    · refine (KOD.out _ HB88.out).mono ?_
      rintro e v3 ⟨rfl, hb3⟩
      go_wp2_with fail
      go_ret
      exact ⟨rfl, HB8.out.trans (hb3.mono HB8.out.size)⟩
    · have hbb : b2 = !b1 := (HPW.out (by simp)).1 hle
      subst hbb
      cases b1
      all_goals simp only [Bool.not_true, Bool.not_false] at KD
      · refine (KOD.out _ HB88.out).mono ?_
        rintro e v3 ⟨rfl, hb3⟩
        have HBd : Hid (Below W8.heap.size W8 v3.drew) := hb3.drew
        obtain ⟨⟨k0, k1, k2⟩, ⟨k3, k4, k5⟩⟩ := HX.out v3 hb3
        clear hb3
        go_wp2_with fail
        have hund : undef = Value.tuple #[] := rfl
        first
        | go_region_with
          (first
            | (go_at_call 13; with_reducible refine (KA.out v3.drew HBd.out).mono ?_
               rintro e vA ⟨rfl, hbA⟩
               have HBL : Hid (Below W8.heap.size W8 vA) := HBd.out.trans (hbA.mono HBd.out.size)
               obtain ⟨⟨k0, k1, k2⟩, ⟨k3, k4, k5⟩⟩ := HX.out vA HBL.out)
            | (go_at_call 13; with_reducible refine (KD.out v3.drew HBd.out).mono ?_
               rintro e vD ⟨rfl, hbD⟩
               have HBL : Hid (Below W8.heap.size W8 vD) := HBd.out.trans (hbD.mono HBd.out.size)
               obtain ⟨⟨k0, k1, k2⟩, ⟨k3, k4, k5⟩⟩ := HX.out vD HBL.out)
            | (go_at_call 13; with_reducible refine (KA.out vD HBL.out).mono ?_
               rintro e vA ⟨rfl, hbA⟩
               have HBL : Hid (Below W8.heap.size W8 vA) := HBL.out.trans (hbA.mono HBL.out.size)
               obtain ⟨⟨k0, k1, k2⟩, ⟨k3, k4, k5⟩⟩ := HX.out vA HBL.out)
            | (go_at_call 13; with_reducible refine (KD.out vA HBL.out).mono ?_
               rintro e vD ⟨rfl, hbD⟩
               have HBL : Hid (Below W8.heap.size W8 vD) := HBL.out.trans (hbD.mono HBL.out.size)
               obtain ⟨⟨k0, k1, k2⟩, ⟨k3, k4, k5⟩⟩ := HX.out vD HBL.out)
            | (go_at_call 13; with_reducible refine (KA.out vA HBL.out).mono ?_
               rintro e vE ⟨rfl, hbE⟩
               have HBL : Hid (Below W8.heap.size W8 vE) := HBL.out.trans (hbE.mono HBL.out.size)
               obtain ⟨⟨k0, k1, k2⟩, ⟨k3, k4, k5⟩⟩ := HX.out vE HBL.out))
        | fail
        all_goals go_wp2_with fail
        all_goals go_ret
        all_goals exact ⟨rfl, HB8.out.trans (HBL.out.mono HB8.out.size)⟩
      · refine (KOD.out _ HB88.out).mono ?_
        rintro e v3 ⟨rfl, hb3⟩
        have HBd : Hid (Below W8.heap.size W8 v3.drew) := hb3.drew
        obtain ⟨⟨k0, k1, k2⟩, ⟨k3, k4, k5⟩⟩ := HX.out v3 hb3
        clear hb3
        go_wp2_with fail
        have hund : undef = Value.tuple #[] := rfl
        first
        | go_region_with
          (first
            | (go_at_call 13; with_reducible refine (KA.out v3.drew HBd.out).mono ?_
               rintro e vA ⟨rfl, hbA⟩
               have HBL : Hid (Below W8.heap.size W8 vA) := HBd.out.trans (hbA.mono HBd.out.size)
               obtain ⟨⟨k0, k1, k2⟩, ⟨k3, k4, k5⟩⟩ := HX.out vA HBL.out)
            | (go_at_call 13; with_reducible refine (KD.out v3.drew HBd.out).mono ?_
               rintro e vD ⟨rfl, hbD⟩
               have HBL : Hid (Below W8.heap.size W8 vD) := HBd.out.trans (hbD.mono HBd.out.size)
               obtain ⟨⟨k0, k1, k2⟩, ⟨k3, k4, k5⟩⟩ := HX.out vD HBL.out)
            | (go_at_call 13; with_reducible refine (KA.out vD HBL.out).mono ?_
               rintro e vA ⟨rfl, hbA⟩
               have HBL : Hid (Below W8.heap.size W8 vA) := HBL.out.trans (hbA.mono HBL.out.size)
               obtain ⟨⟨k0, k1, k2⟩, ⟨k3, k4, k5⟩⟩ := HX.out vA HBL.out)
            | (go_at_call 13; with_reducible refine (KD.out vA HBL.out).mono ?_
               rintro e vD ⟨rfl, hbD⟩
               have HBL : Hid (Below W8.heap.size W8 vD) := HBL.out.trans (hbD.mono HBL.out.size)
               obtain ⟨⟨k0, k1, k2⟩, ⟨k3, k4, k5⟩⟩ := HX.out vD HBL.out)
            | (go_at_call 13; with_reducible refine (KA.out vA HBL.out).mono ?_
               rintro e vE ⟨rfl, hbE⟩
               have HBL : Hid (Below W8.heap.size W8 vE) := HBL.out.trans (hbE.mono HBL.out.size)
               obtain ⟨⟨k0, k1, k2⟩, ⟨k3, k4, k5⟩⟩ := HX.out vE HBL.out))
        | fail
        all_goals go_wp2_with fail
        all_goals go_ret
        all_goals exact ⟨rfl, HB8.out.trans (HBL.out.mono HB8.out.size)⟩
  · have hleI : ¬ (s.size : Int) ≤ 12 := by omega
    rw [show decide ((s.size : Int) ≤ 12) = false from decide_eq_false hleI] at HIW HSW
    go_wp2_with fail
    refine (HIW.out _).mono ?_
    rintro e v1 ⟨rfl, hv1⟩
    subst v1
    go_wp2_with fail
    refine (HSW.out _).mono ?_
    rintro e v2 ⟨rfl, hv2⟩
    subst v2
    go_wp2_with fail
    rw [← hW8]
    clear hW8 x0 x1 x2 xf
    cases od
    · refine (KOD.out _ HB88.out).mono ?_
      rintro e v3 ⟨rfl, hb3⟩
      go_wp2_with fail
      go_ret
      exact ⟨rfl, HB8.out.trans (hb3.mono HB8.out.size)⟩
    · obtain ⟨hbb1, hbb2⟩ := (HPW.out (by simp)).2 (by omega)
      subst hbb1
      subst hbb2
      refine (KOD.out _ HB88.out).mono ?_
      rintro e v3 ⟨rfl, hb3⟩
      have HBd : Hid (Below W8.heap.size W8 v3.drew) := hb3.drew
      obtain ⟨⟨k0, k1, k2⟩, ⟨k3, k4, k5⟩⟩ := HX.out v3 hb3
      clear hb3
      go_wp2_with fail
      first
      | go_region_held (fun V => (V.cell? ⟨w1.heap.size, 0, none⟩ = some (.int .i64 S.kind) ∧ V.cell? ⟨w1.heap.size, 1, none⟩ = some (.slice sa sn sc) ∧ V.cell? ⟨w1.heap.size, 2, none⟩ = some (.slice ka km kc)) ∧ (V.cell? ⟨w3.heap.size + 1, 0, none⟩ = some (.int .i64 7) ∧ V.cell? ⟨w3.heap.size + 1, 1, none⟩ = some (.slice none 0 0) ∧ V.cell? ⟨w3.heap.size + 1, 2, none⟩ = some (.slice (some ⟨w3.heap.size, 0, none⟩) 1 1))) (first | go_keep)
        (first
          | (go_at_call 13; with_reducible refine (KA.out v3.drew HBd.out).mono ?_
             rintro e vA ⟨rfl, hbA⟩
             have HBL : Hid (Below W8.heap.size W8 vA) := HBd.out.trans (hbA.mono HBd.out.size)
             obtain ⟨⟨k0, k1, k2⟩, ⟨k3, k4, k5⟩⟩ := HX.out vA HBL.out)
          | (go_at_call 13; with_reducible refine (KD.out v3.drew HBd.out).mono ?_
             rintro e vD ⟨rfl, hbD⟩
             have HBL : Hid (Below W8.heap.size W8 vD) := HBd.out.trans (hbD.mono HBd.out.size)
             obtain ⟨⟨k0, k1, k2⟩, ⟨k3, k4, k5⟩⟩ := HX.out vD HBL.out)
          | (go_at_call 13; with_reducible refine (KA.out vD HBL.out).mono ?_
             rintro e vA ⟨rfl, hbA⟩
             have HBL : Hid (Below W8.heap.size W8 vA) := HBL.out.trans (hbA.mono HBL.out.size)
             obtain ⟨⟨k0, k1, k2⟩, ⟨k3, k4, k5⟩⟩ := HX.out vA HBL.out)
          | (go_at_call 13; with_reducible refine (KD.out vA HBL.out).mono ?_
             rintro e vD ⟨rfl, hbD⟩
             have HBL : Hid (Below W8.heap.size W8 vD) := HBL.out.trans (hbD.mono HBL.out.size)
             obtain ⟨⟨k0, k1, k2⟩, ⟨k3, k4, k5⟩⟩ := HX.out vD HBL.out)
          | (go_at_call 13; with_reducible refine (KA.out vA HBL.out).mono ?_
             rintro e vE ⟨rfl, hbE⟩
             have HBL : Hid (Below W8.heap.size W8 vE) := HBL.out.trans (hbE.mono HBL.out.size)
             obtain ⟨⟨k0, k1, k2⟩, ⟨k3, k4, k5⟩⟩ := HX.out vE HBL.out))
      | fail
      all_goals go_wp2_with fail
      all_goals go_ret
      all_goals exact ⟨rfl, HB8.out.trans (HBL.out.mono HB8.out.size)⟩
end Go.Proofs.YtkbhljpdneibaaaDoor

