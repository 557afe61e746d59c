/- The walk of the law FnMatchLong. -/
import Derived.Test.YtdkdpdkmkabbaaaDoorDq
import Derived.Test.YtdkdpdkmkabbaaaDoorLe
import Derived.Deep.CutRange
import Derived.BigQuiet
import Derived.Deep.RegionHeld
import Derived.Shelf.Abstract
namespace Go.Proofs.YtdkdpdkmkabbaaaDoor
open Go.RowKit Go.Shelf
set_option linter.unusedVariables false
set_option linter.unusedSimpArgs false

/-- a bool is told, and only new memory is made -/
def BoolR (b : Bool) (w : World) (e : Ending) (w' : World) : Prop := e = .returned (.bool b) ∧ Below w.heap.size w w'
theorem BoolR.ret {b : Bool} {w : World} : ∀ e w', BoolR b w e w' → ∃ r, e = .returned r := fun e w' h => ⟨_, h.1⟩
theorem isB_piece {S : Sh} {s : ByteArray} (hok : okR S = true) (hs : s.size ≤ 12) (a k : Nat) : isB S (s.extract a (a + k)) = pieceB S (tx s) a k := by
  rw [isB, hok, Bool.true_and, from_piece, show decide (((s.extract a (a + k)).size : Int) ≤ 12) = true from decide_eq_true (by simp; omega), Bool.true_and]
theorem long_facts {S : Sh} {s : ByteArray} {a : Nat} {E : Int} (hok : okR S = true) (hs : s.size ≤ 12) (ha : a ≤ s.size) (hE : longR S s (a : Int) = E) :
    (-1 ≤ E ∧ (a : Int) + E ≤ (s.size : Int)) ∧ (∀ m : Nat, E = (m : Int) → isB S (s.extract a (a + m)) = true) ∧ (∀ k : Nat, E < (k : Int) → a + k ≤ s.size → isB S (s.extract a (a + k)) = false) ∧ (E = -1 → isNullR S = false) := by
  rw [longR_yes hok hs ha] at hE
  have hlo := topI_lo (pieceB S (tx s) a) (s.size - a + 1)
  refine ⟨by omega, fun m hm => ?_, fun k hk hks => ?_, fun h1 => ?_⟩
  · rw [isB_piece hok hs]
    have h0 := topI_at (B := pieceB S (tx s) a) (n := s.size - a + 1) (by omega)
    rwa [hE, hm, Int.toNat_natCast] at h0
  · rw [isB_piece hok hs]
    exact topI_gt (by omega) (show k < s.size - a + 1 by omega)
  · rw [isNullR, hok, Bool.true_and, ← null_piece hok (tx s) a]
    exact topI_gt (n := s.size - a + 1) (k := 0) (by omega) (by omega)

set_option maxRecDepth 100000 in
set_option maxHeartbeats 8000000 in
theorem lawLong (a : Option Addr) (n c bb off : Nat) (V : Nat → Nat) (w : World) (t : TypeId) (ea : Addr) (hE : Err w t ea) (hn : n ≤ 9223372036854775807) (hc : n ≤ c) (hcc : c ≤ 9223372036854775807) (ha : 0 < n → a = some ⟨bb, off, none⟩ ∧ bb < w.heap.size) (hV : ∀ i, i < n → V i ≤ 255 ∧ w.cell? ⟨bb, off + i, none⟩ = some (.int .u8 (V i : Int))) :
    Calls Tryd.prog 3 #[.slice a n c] w fun e w' => e = .returned (.bool true) ∧ Below w.heap.size w w' := by
  by_cases hbig : 1048576 < n
  · have hb : (1048576 : Int) < (n : Int) := by omega
    clear ha hV
    go_enter Tryd.func3, Tryd.ntmps3
    go_wp2_with fail
    go_ret
    exact ⟨rfl, Below.refl _ _⟩
  · have hb : ¬ (1048576 : Int) < (n : Int) := by omega
    have HD : Hid (Calls Tryd.prog 5 #[.slice a n c] w (DrawRes3 w)) := drawLong_any a n c bb off V w (by omega) hc hcc ha hV
    have HE : Hid (Err w t ea) := hE
    clear ha hV hE hbig
    go_enter Tryd.func3, Tryd.ntmps3
    go_wp2_with fail
    refine HD.out.mono ?_
    rintro e w1 ⟨S, M, s, x, rfl, hin1, hcS, hs12, ⟨hx1, hx2⟩, hb1⟩
    obtain ⟨sa, sn, sc, ka, km, kc, es, ek⟩ := hin1.slices
    have HV : Hid (vx S M = .agg #[.int .i64 S.kind, .slice sa sn sc, .slice ka km kc]) := by rw [Hid, vx, es, ek]
    obtain ⟨W2, hW2⟩ : ∃ V, V = w1.alloc (.cells #[.int .i64 S.kind, .slice sa sn sc, .slice ka km kc] 26) := ⟨_, rfl⟩
    have hb2 : Below w1.heap.size w1 W2 := by rw [hW2]; exact below_new _ _
    have HB2 : Hid (Below w.heap.size w W2) := hb1.trans (hb2.mono hb1.size)
    have HX : Hid (∀ V, Below W2.heap.size W2 V → V.cell? ⟨w1.heap.size, 0, none⟩ = some (.int .i64 S.kind) ∧ V.cell? ⟨w1.heap.size, 1, none⟩ = some (.slice sa sn sc) ∧ V.cell? ⟨w1.heap.size, 2, none⟩ = some (.slice ka km kc)) := fun V hb => by
      have k : ∀ o v, W2.cell? ⟨w1.heap.size, o, none⟩ = some v → V.cell? ⟨w1.heap.size, o, none⟩ = some v := fun o v h => (hb.cell (p := ⟨w1.heap.size, o, none⟩) (World.block_lt_of_cell? _ _ h)).trans h
      refine ⟨k _ _ ?_, k _ _ ?_, k _ _ ?_⟩ <;> (rw [hW2]; simp [go_sem])
    have HIN : Hid (∀ V, Below W2.heap.size W2 V → In AnyB V S M) := fun V hb => ((hin1.below hb2).below hb).mono (fun _ _ => trivial)
    have HER : Hid (∀ V, Below W2.heap.size W2 V → Err V t ea) := fun V hb => (HE.out.below HB2.out).below hb
    have HIL : Hid (∀ x V, Below W2.heap.size W2 V → Calls Tryd.prog 6 #[.agg #[.int .i64 S.kind, .slice sa sn sc, .slice ka km kc], .string s, .int .i64 x] V fun e w' => e = .returned (.int .i64 (longR S s x)) ∧ Below V.heap.size V w') := fun x V hb => by
      have h := implMatchLong_any S M s x V t ea (HER.out V hb) (HIN.out V hb) (by omega)
      rwa [HV.out] at h
    have HSL : Hid (∀ x V, Below W2.heap.size W2 V → Calls Tryd.prog 7 #[.agg #[.int .i64 S.kind, .slice sa sn sc, .slice ka km kc], .string s, .int .i64 x] V fun e w' => e = .returned (.int .i64 (longR S s x)) ∧ Below V.heap.size V w') := fun x V hb => by
      have h := specMatchLong_any S M s x V (HIN.out V hb) (by omega)
      rwa [HV.out] at h
    have HOK : Hid (∀ V, Below W2.heap.size W2 V → Calls Tryd.prog 8 #[.agg #[.int .i64 S.kind, .slice sa sn sc, .slice ka km kc]] V fun e w' => e = .returned (.bool (okR S)) ∧ Below V.heap.size V w') := fun V hb => by
      have h := specRexOk_any S M V (HIN.out V hb) (by omega)
      rwa [HV.out] at h
    have HNU : Hid (∀ V, Below W2.heap.size W2 V → Calls Tryd.prog 10 #[.agg #[.int .i64 S.kind, .slice sa sn sc, .slice ka km kc]] V fun e w' => e = .returned (.bool (isNullR S)) ∧ Below V.heap.size V w') := fun V hb => by
      have h := implRexNull_any S M V t ea (HER.out V hb) (HIN.out V hb) (by omega)
      rwa [HV.out] at h
    have HIS : Hid (∀ (u : ByteArray) V, Below W2.heap.size W2 V → Calls Tryd.prog 9 #[.agg #[.int .i64 S.kind, .slice sa sn sc, .slice ka km kc], .string u] V fun e w' => e = .returned (.bool (isB S u)) ∧ Below V.heap.size V w') := fun u V hb => by
      have h := implMatchIs_any S M u V t ea (HER.out V hb) (HIN.out V hb) (by omega)
      rwa [HV.out] at h
    have HB22 : Hid (Below W2.heap.size W2 W2) := Below.refl _ _
    obtain ⟨x0, x1, x2⟩ := HX.out W2 HB22.out
    rw [hW2] at x0 x1 x2
    rw [HV.out]
    obtain ⟨E, hE⟩ : ∃ E, longR S s x = E := ⟨_, rfl⟩
    have HIE := HIL.out x
    have HSE := HSL.out x
    rw [hE] at HIE HSE
    clear hin1 hcS es ek hb1 hb2 HIN HER HV HE
    have K1 : Hid (∀ V, Below W2.heap.size W2 V → Calls Tryd.prog 6 #[.agg #[.int .i64 S.kind, .slice sa sn sc, .slice ka km kc], .string s, .int .i64 x] V fun e w' => e = .returned (.int .i64 E) ∧ Below V.heap.size V w') := HIE
    have K3 : Hid (∀ V, Below W2.heap.size W2 V → Calls Tryd.prog 7 #[.agg #[.int .i64 S.kind, .slice sa sn sc, .slice ka km kc], .string s, .int .i64 x] V fun e w' => e = .returned (.int .i64 E) ∧ Below V.heap.size V w') := HSE
    have hlE := longR_lo S s x
    rw [hE] at hlE
    clear HIE HSE HSL HIL
    go_wp2_with fail
    rw [← hW2]
    clear hW2 x0 x1 x2
    have x0 := True.intro
    have x1 := True.intro
    have x2 := True.intro
    refine (K1.out _ HB22.out).mono ?_
    rintro e v3 ⟨rfl, hb3⟩
    have HB23 : Hid (Below W2.heap.size W2 v3) := HB22.out.trans (hb3.mono HB22.out.size)
    clear x0 x1 x2
    obtain ⟨x0, x1, x2⟩ := HX.out v3 HB23.out
    clear hb3
    go_wp2_with fail
    refine (K3.out _ HB23.out).mono ?_
    rintro e v4 ⟨rfl, hb4⟩
    have HB24 : Hid (Below W2.heap.size W2 v4) := HB23.out.trans (hb4.mono HB23.out.size)
    clear x0 x1 x2
    obtain ⟨x0, x1, x2⟩ := HX.out v4 HB24.out
    clear hb4
    go_wp2_with fail
    have hcase : okR S = false ∨ (okR S = true ∧ x < 0) ∨ (okR S = true ∧ 0 ≤ x ∧ (s.size : Int) < x) ∨ (okR S = true ∧ ∃ a : Nat, x = (a : Int) ∧ a ≤ s.size) := by
      cases okR S with
      | false => exact .inl rfl
      | true =>
        by_cases h1 : x < 0
        · exact .inr (.inl ⟨rfl, h1⟩)
        · by_cases h2 : (s.size : Int) < x
          · exact .inr (.inr (.inl ⟨rfl, by omega, h2⟩))
          · exact .inr (.inr (.inr ⟨rfl, x.toNat, by omega, by omega⟩))
    rcases hcase with hok | ⟨hok, hxl⟩ | ⟨hok, hxl, hxg⟩ | ⟨hok, a0, rfl, ha0⟩
    · have hE1 : E = -1 := by rw [← hE]; exact longR_no (fun h => by rw [hok] at h; cases h.1)
      subst hE1
      rw [hok] at HOK
      clear hE hlE hok
      refine (HOK.out _ HB24.out).mono ?_
      rintro e v5 ⟨rfl, hb5⟩
      have HB25 : Hid (Below W2.heap.size W2 v5) := HB24.out.trans (hb5.mono HB24.out.size)
      clear x0 x1 x2
      obtain ⟨x0, x1, x2⟩ := HX.out v5 HB25.out
      clear hb5
      go_wp2_with fail
      go_ret
      exact ⟨rfl, HB2.out.trans (HB25.out.mono HB2.out.size)⟩
    · have hE1 : E = -1 := by rw [← hE]; exact longR_no (fun h => by omega)
      subst hE1
      rw [hok] at HOK
      clear hE hlE hok
      refine (HOK.out _ HB24.out).mono ?_
      rintro e v5 ⟨rfl, hb5⟩
      have HB25 : Hid (Below W2.heap.size W2 v5) := HB24.out.trans (hb5.mono HB24.out.size)
      clear x0 x1 x2
      obtain ⟨x0, x1, x2⟩ := HX.out v5 HB25.out
      clear hb5
      go_wp2_with fail
      go_ret
      exact ⟨rfl, HB2.out.trans (HB25.out.mono HB2.out.size)⟩
    · have hE1 : E = -1 := by rw [← hE]; exact longR_no (fun h => by omega)
      subst hE1
      rw [hok] at HOK
      have hxl' : ¬ x < 0 := by omega
      clear hE hlE hok
      refine (HOK.out _ HB24.out).mono ?_
      rintro e v5 ⟨rfl, hb5⟩
      have HB25 : Hid (Below W2.heap.size W2 v5) := HB24.out.trans (hb5.mono HB24.out.size)
      clear x0 x1 x2
      obtain ⟨x0, x1, x2⟩ := HX.out v5 HB25.out
      clear hb5
      go_wp2_with fail
      go_ret
      exact ⟨rfl, HB2.out.trans (HB25.out.mono HB2.out.size)⟩
    · obtain ⟨⟨hE0, hEs⟩, HIT, HIF, HNN⟩ := long_facts hok hs12 ha0 hE
      have HIT' : Hid (∀ m : Nat, E = (m : Int) → isB S (s.extract a0 (a0 + m)) = true) := HIT
      have HIF' : Hid (∀ k : Nat, E < (k : Int) → a0 + k ≤ s.size → isB S (s.extract a0 (a0 + k)) = false) := HIF
      have HNN' : Hid (E = -1 → isNullR S = false) := HNN
      rw [hok] at HOK
      have ha00 : ¬ (a0 : Int) < 0 := by omega
      have has : ¬ (s.size : Int) < (a0 : Int) := by omega
      have hasN : ¬ s.size < a0 := by omega
      have hEc : E = -1 ∨ ∃ m : Nat, E = (m : Int) ∧ a0 + m ≤ s.size := by
        by_cases h : E = -1
        · exact .inl h
        · exact .inr ⟨E.toNat, by omega, by omega⟩
      clear hE hok HIT HIF HNN K1 K3
      refine (HOK.out _ HB24.out).mono ?_
      rintro e v5 ⟨rfl, hb5⟩
      have HB25 : Hid (Below W2.heap.size W2 v5) := HB24.out.trans (hb5.mono HB24.out.size)
      clear x0 x1 x2 hb5
      obtain ⟨x0, x1, x2⟩ := HX.out v5 HB25.out
      have lx5 : w1.heap.size < v5.heap.size := World.block_lt_of_cell? _ _ x0
      go_wp2_with fail
      go_cut [54] from 8 (fun u wc => u = .bool false ∧ Below W2.heap.size W2 wc)
      case first =>
        rcases hEc with rfl | ⟨m, rfl, ham⟩
        · go_quiet (fail)
          all_goals go_wp2_with fail
          all_goals go_meet
          all_goals exact ⟨rfl, below_drewN HB25.out _⟩
        · have h1 : (a0 : Int) ≤ (a0 : Int) + (m : Int) := by omega
          have h2 : (a0 : Int) + (m : Int) ≤ (s.size : Int) := by omega
          have h3 : ((a0 : Int) + (m : Int)).toNat = a0 + m := by omega
          have h4 : IntKind.i64.wrap ((a0 : Int) + (m : Int)) = (a0 : Int) + (m : Int) := by rw [IntKind.wrap_i64]; omega
          have h5 : (0 : Int) ≤ (m : Int) := by omega
          have HIS1 : Hid (Calls Tryd.prog 9 #[.agg #[.int .i64 S.kind, .slice sa sn sc, .slice ka km kc], .string (s.extract a0 (a0 + m))] v5.drew (BoolR true v5.drew)) := by
            have h := HIS.out (s.extract a0 (a0 + m)) v5.drew HB25.out.drew
            rwa [HIT'.out m rfl] at h
          go_region_held (fun V => V.cell? ⟨w1.heap.size, 0, none⟩ = some (.int .i64 S.kind) ∧ V.cell? ⟨w1.heap.size, 1, none⟩ = some (.slice sa sn sc) ∧ V.cell? ⟨w1.heap.size, 2, none⟩ = some (.slice ka km kc)) (first | go_keep)
            (first
              | (go_at_call 9; refine HIS1.out.mono ?_; rintro e v6 ⟨rfl, hb6⟩
                 obtain ⟨q0, q1, q2⟩ := HX.out v6 (HB25.out.drew.trans (hb6.mono HB25.out.drew.size))))
          all_goals go_wp2_with fail
          all_goals go_meet
          all_goals exact ⟨rfl, HB25.out.drew.trans (hb6.mono HB25.out.drew.size)⟩
      case rest =>
      rename World => v6
      obtain ⟨rfl, hb6⟩ := hcut
      have HB26 : Hid (Below W2.heap.size W2 v6) := hb6
      clear x0 x1 x2 lx5 hb6
      obtain ⟨G, hG⟩ : ∃ G : Nat, (G : Int) = (s.size : Int) - (a0 : Int) - E := ⟨((s.size : Int) - (a0 : Int) - E).toNat, by omega⟩
      obtain ⟨k0, hk0⟩ : ∃ k0 : Nat, (k0 : Int) = E + 1 := ⟨(E + 1).toNat, by omega⟩
      have hEw : IntKind.i64.wrap (E + 1) = (k0 : Int) := by rw [IntKind.wrap_i64]; omega
      go_wp2_with fail
      go_loopg [7] G (fun gk ix wr => ∃ kk : Nat, ix = .int .i64 (kk : Int) ∧ a0 + kk + gk = s.size + 1 ∧ E < (kk : Int) ∧ Below W2.heap.size W2 wr)
      case atStart => exact ⟨k0, by first | rfl | (congr 1; omega), by omega, by omega, HB26.out⟩
      case round =>
        obtain ⟨kk, rfl, hkk, hEk, hbr⟩ := hrel
        have HBR : Hid (Below W2.heap.size W2 wr) := hbr
        obtain ⟨x0, x1, x2⟩ := HX.out wr hbr
        have lxr : w1.heap.size < wr.heap.size := World.block_lt_of_cell? _ _ x0
        have hwk : IntKind.i64.wrap ((a0 : Int) + (kk : Int)) = (a0 : Int) + (kk : Int) := by rw [IntKind.wrap_i64]; omega
        clear hbr
        cases gk with
        | zero =>
          have hz : ¬ ((a0 : Int) + (kk : Int) ≤ (s.size : Int)) := by omega
          have hzN : ¬ (a0 + kk ≤ s.size) := by omega
          have hwE : IntKind.i64.wrap ((a0 : Int) + E) = (a0 : Int) + E := by rw [IntKind.wrap_i64]; omega
          clear hkk hEk
          rcases hEc with rfl | ⟨m, rfl, ham⟩
          · have HN1 : Hid (Calls Tryd.prog 10 #[.agg #[.int .i64 S.kind, .slice sa sn sc, .slice ka km kc]] wr fun e w' => e = .returned (.bool false) ∧ Below wr.heap.size wr w') := by
              have h := HNU.out wr HBR.out
              rwa [HNN'.out rfl] at h
            go_wp2_with fail
            refine HN1.out.mono ?_
            rintro e v7 ⟨rfl, hb7⟩
            go_wp2_with fail
            go_ret
            exact ⟨rfl, HB2.out.trans ((HBR.out.trans (hb7.mono HBR.out.size)).mono HB2.out.size)⟩
          · have h5 : (0 : Int) ≤ (m : Int) := by omega
            have h6 : (-1 : Int) ≤ (m : Int) := by omega
            go_wp2_with fail
            go_ret
            exact ⟨rfl, HB2.out.trans (HBR.out.mono HB2.out.size)⟩
        | succ j =>
          have hz : (a0 : Int) + (kk : Int) ≤ (s.size : Int) := by omega
          have hzN : a0 + kk ≤ s.size := by omega
          have h1 : (a0 : Int) ≤ (a0 : Int) + (kk : Int) := by omega
          have h3 : ((a0 : Int) + (kk : Int)).toNat = a0 + kk := by omega
          have h5 : (0 : Int) ≤ (kk : Int) := by omega
          have HIS1 : Hid (Calls Tryd.prog 9 #[.agg #[.int .i64 S.kind, .slice sa sn sc, .slice ka km kc], .string (s.extract a0 (a0 + kk))] wr.drew (BoolR false wr.drew)) := by
            have h := HIS.out (s.extract a0 (a0 + kk)) wr.drew HBR.out.drew
            rwa [HIF'.out kk hEk hzN] at h
          go_wp2_with fail
          go_region_held (fun V => V.cell? ⟨w1.heap.size, 0, none⟩ = some (.int .i64 S.kind) ∧ V.cell? ⟨w1.heap.size, 1, none⟩ = some (.slice sa sn sc) ∧ V.cell? ⟨w1.heap.size, 2, none⟩ = some (.slice ka km kc)) (first | go_keep)
            (first
              | (go_at_call 9; refine HIS1.out.mono ?_; rintro e v8 ⟨rfl, hb8⟩
                 obtain ⟨q0, q1, q2⟩ := HX.out v8 (HBR.out.drew.trans (hb8.mono HBR.out.drew.size))))
          all_goals go_wp2_with fail
          all_goals
            go_roundg j
            case measure => omega
            case rel => exact ⟨kk + 1, by congr 1, by omega, by omega, HBR.out.drew.trans (hb8.mono HBR.out.drew.size)⟩
end Go.Proofs.YtdkdpdkmkabbaaaDoor

