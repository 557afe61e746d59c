/- the walk of the model's l7Parts -/
import Derived.Test.YtolddecfibdblaaDoorJg
import Derived.Test.YtolddecfibdblaaDoorJe
import Derived.Test.YtolddecfibdblaaDoorTe
import Derived.Deep.CutRange
import Derived.Deep.RegionHeld
namespace Go.Proofs.YtolddecfibdblaaDoor
open Go.RowKit
set_option linter.unusedVariables false
set_option linter.unusedSimpArgs false

/-- the set at i, as an argument -/
abbrev sl (N : Nest) (i : Nat) : Value := .slice (N.a i) (N.n i) (N.cap i)

set_option maxHeartbeats 1000000 in
theorem specMeetLen_any (N : Nest) (i j : Nat) (w : World) (hi : 0 < N.n i → N.a i = some ⟨N.b i, N.off i, none⟩) (si : Sp w (N.b i) (N.off i) (N.n i) (N.L i) (N.H i))
    (hj : 0 < N.n j → N.a j = some ⟨N.b j, N.off j, none⟩) (sj : Sp w (N.b j) (N.off j) (N.n j) (N.L j) (N.H j)) (hni : N.n i ≤ 4194304) (hnj : N.n j ≤ 4194304)
    (oki : okB (N.n i) (N.L i) (N.H i) = true) (okj : okB (N.n j) (N.L j) (N.H j) = true) :
    Calls Tryd.prog 58 #[sl N i, sl N j] w fun e w' => ∃ (a : Option Addr) (q cap : Nat), e = .returned (.slice a q cap) ∧ (q = 0 ↔ Dis (Sb N i) (Sb N j)) ∧ q ≤ 256 ∧ Below w.heap.size w w' := by
  refine (specSetMeet_any (N.a i) (N.a j) (N.b i) (N.off i) (N.cap i) (N.n i) (N.b j) (N.off j) (N.cap j) (N.n j) (N.L i) (N.H i) (N.L j) (N.H j) w hi si hj sj hni hnj (fun x => Sb N i x && Sb N j x) (fun x => rfl) _ rfl).mono ?_
  rintro e w' ⟨v, rfl, hv, hb⟩
  have hm := meet_nil oki okj
  rcases hv.2 with ⟨rfl, h0⟩ | ⟨g, cap, _, rfl, _⟩
  · exact ⟨none, 0, 0, rfl, ⟨fun _ => hm.1 h0, fun _ => rfl⟩, by omega, hb⟩
  · refine ⟨_, _, _, rfl, hm, ?_, hb⟩
    rw [oki, okj]
    exact runs_le (fun x => Sb N i x && Sb N j x)

set_option maxRecDepth 100000 in
set_option maxHeartbeats 4000000 in
theorem specParts_any (a : Option Addr) (b off cap n : Nat) (N : Nest) (w : World) (hga : 0 < n → a = some ⟨b, off, none⟩) (hc : SS w b off n N) (hn : n ≤ 4194304) (hni : ∀ i, i < n → N.n i ≤ 4194304) :
    Calls Tryd.prog 45 #[.slice a n cap] w (IsB (PartsGood n N) w) := by
  go_enter Tryd.func45, Tryd.ntmps45
  go_wp2_with fail
  go_loopw [3, 4] (fun t i wr => ∃ (k c : Nat), k ≤ n ∧ i = .int .i64 k ∧ t = .int .i64 c ∧ c ≤ 256 ∧ Hid (PUpto N k ∧ c = sumCb N k) ∧ Below w.heap.size w wr) (fun _ i _ => n - (intOf i).toNat)
  case atStart => exact ⟨0, 0, Nat.zero_le _, rfl, rfl, by omega, ⟨fun i hi => absurd hi (Nat.not_lt_zero _), rfl⟩, Below.refl _ _⟩
  case round =>
    obtain ⟨k, c, hk, rfl, rfl, hc256, HP, hB⟩ := hrel
    by_cases hlt : k < n
    · obtain rfl := hga (by omega)
      have hltz : (k : Int) < (n : Int) := by omega
      obtain ⟨c1, g1, s1⟩ := (hc.below hB) k hlt
      have HSO : Hid (∀ V, Below wr.heap.size wr V → Calls Tryd.prog 56 #[.slice (N.a k) (N.n k) (N.cap k)] V fun e w' => e = .returned (.bool (okB (N.n k) (N.L k) (N.H k))) ∧ ∃ q, w' = V.drewN q) := fun V hV =>
        specSetOk_q _ _ _ _ _ _ _ _ g1 (s1.below hV) (hni k hlt)
      obtain ⟨r, hr⟩ := first_exists (Sb N k)
      have HFR : Hid (FirstB (Sb N k) r) := hr
      have HF1 : Hid (∀ V, Below wr.heap.size wr V → Calls Tryd.prog 57 #[.slice (N.a k) (N.n k) (N.cap k)] V fun e w' => e = .returned (.int .i64 r) ∧ w' = V) := fun V hV =>
        (specSetFirst_any _ _ _ _ _ _ _ _ g1 (s1.below hV) (hni k hlt)).mono fun e w' ⟨r', e1, e2, e3⟩ => ⟨by rw [e1, e2.unique HFR.out], e3⟩
      have HSZ : Hid (∀ V, Below wr.heap.size wr V → ∀ q : Nat, q = cntb (Sb N k) 256 → Calls Tryd.prog 59 #[.slice (N.a k) (N.n k) (N.cap k)] V fun e w' => e = .returned (.int .i64 q) ∧ w' = V) := fun V hV q hq =>
        specSetSize_any _ _ _ _ _ _ _ _ g1 (s1.below hV) (hni k hlt) q hq
      have HSL : Hid ((0 < N.n k → N.a k = some ⟨N.b k, N.off k, none⟩) ∧ Sp wr (N.b k) (N.off k) (N.n k) (N.L k) (N.H k)) := ⟨g1, s1⟩
      clear g1 s1 hr
      go_wp2_with fail
      go_cut [43] from 6 to 66 (fun s wc => ∃ bad : Bool, s = .bool bad ∧ Hid (bad = false ↔ okB (N.n k) (N.L k) (N.H k) = true ∧ (∃ x, x < 256 ∧ Sb N k x = true) ∧ (0 < k → ∀ r r', FirstB (Sb N (k - 1)) r → FirstB (Sb N k) r' → r < r')) ∧ Below wr.heap.size wr wc)
      case first =>
        cases hok : okB (N.n k) (N.L k) (N.H k)
        · have HOKF : Hid (okB (N.n k) (N.L k) (N.H k) = false) := hok
          rw [hok] at HSO
          clear hok
          go_quiet ((go_at_call 56; exact Calls.quiet_of (HSO.out _ (below_drewN (Below.refl _ _) _))))
          go_wp2_with fail
          go_meet
          exact ⟨true, rfl, ⟨fun h => (by cases h), fun h => absurd (h.1.symm.trans HOKF.out) (by simp)⟩, below_drewN (Below.refl _ _) _⟩
        have HOKT : Hid (okB (N.n k) (N.L k) (N.H k) = true) := hok
        rw [hok] at HSO
        by_cases h0 : N.n k = 0
        · have hz : ((N.n k : Int) == 0) = true := by simp [h0]
          have HNO : Hid (¬ ∃ x, x < 256 ∧ Sb N k x = true) := fun h => (ok_ne hok).1 h h0
          clear hok h0
          go_quiet ((go_at_call 56; exact Calls.quiet_of (HSO.out _ (below_drewN (Below.refl _ _) _))))
          go_wp2_with fail
          go_meet
          exact ⟨true, rfl, ⟨fun h => (by cases h), fun h => absurd h.2.1 HNO.out⟩, below_drewN (Below.refl _ _) _⟩
        have hz : ((N.n k : Int) == 0) = false := by simp [h0]
        have HNE : Hid (∃ x, x < 256 ∧ Sb N k x = true) := (ok_ne hok).2 h0
        by_cases hk0 : 0 < k
        · have hkz : (0 : Int) < (k : Int) := by omega
          obtain ⟨c3, g3, s3⟩ := (hc.below hB) (k - 1) (by omega)
          obtain ⟨r0, hr0⟩ := first_exists (Sb N (k - 1))
          have HFR0 : Hid (FirstB (Sb N (k - 1)) r0) := hr0
          have HF2 : Hid (∀ V, Below wr.heap.size wr V → Calls Tryd.prog 57 #[.slice (N.a (k - 1)) (N.n (k - 1)) (N.cap (k - 1))] V fun e w' => e = .returned (.int .i64 r0) ∧ w' = V) := fun V hV =>
            (specSetFirst_any _ _ _ _ _ _ _ _ g3 (s3.below hV) (hni (k - 1) (by omega))).mono fun e w' ⟨r', e1, e2, e3⟩ => ⟨by rw [e1, e2.unique HFR0.out], e3⟩
          have hk1 : ((k : Int) - 1) = ((k - 1 : Nat) : Int) := by omega
          clear g3 s3 hr0 h0 hok
          by_cases hle : r ≤ r0
          · have hled : decide (r ≤ r0) = true := by simp [hle]
            have HLE : Hid (r ≤ r0) := hle
            clear hle
            go_quiet ((first | (go_at_call 56; exact Calls.quiet_of (HSO.out _ (below_drewN (Below.refl _ _) _))) | (go_at_call 57; (with_reducible refine Calls.quiet_of_same (HF1.out _ ?_)); exact below_drewN (Below.refl _ _) _) | (go_at_call 57; (with_reducible refine Calls.quiet_of_same (HF2.out _ ?_)); exact below_drewN (Below.refl _ _) _)))
            go_wp2_with fail
            go_meet
            exact ⟨true, rfl, ⟨fun h => (by cases h), fun h => absurd (h.2.2 hk0 _ _ HFR0.out HFR.out) (by have := HLE.out; omega)⟩, below_drewN (Below.refl _ _) _⟩
          · have hled : decide (r ≤ r0) = false := by simp; omega
            have HLE : Hid (r0 < r) := by show r0 < r; omega
            clear hle
            go_quiet ((first | (go_at_call 56; exact Calls.quiet_of (HSO.out _ (below_drewN (Below.refl _ _) _))) | (go_at_call 57; (with_reducible refine Calls.quiet_of_same (HF1.out _ ?_)); exact below_drewN (Below.refl _ _) _) | (go_at_call 57; (with_reducible refine Calls.quiet_of_same (HF2.out _ ?_)); exact below_drewN (Below.refl _ _) _)))
            go_wp2_with fail
            go_meet
            exact ⟨false, rfl, ⟨fun _ => ⟨HOKT.out, HNE.out, fun _ x y hx hy => by rw [hx.unique HFR0.out, hy.unique HFR.out]; exact HLE.out⟩, fun _ => rfl⟩, below_drewN (Below.refl _ _) _⟩
        · have hkz : decide ((0 : Int) < (k : Int)) = false := by simp; omega
          have hkn : decide (0 < k) = false := by simp; omega
          have HK0 : Hid (¬ 0 < k) := hk0
          clear hk0 hok h0
          go_quiet ((go_at_call 56; exact Calls.quiet_of (HSO.out _ (below_drewN (Below.refl _ _) _))))
          go_wp2_with fail
          go_meet
          exact ⟨false, rfl, ⟨fun _ => ⟨HOKT.out, HNE.out, fun h => absurd h HK0.out⟩, fun _ => rfl⟩, below_drewN (Below.refl _ _) _⟩
      case rest =>
        obtain ⟨bad, rfl, HL, hbc⟩ := hcut
        cases bad
        · have HLL : Hid (okB (N.n k) (N.L k) (N.H k) = true ∧ (∃ x, x < 256 ∧ Sb N k x = true) ∧ (0 < k → ∀ r r', FirstB (Sb N (k - 1)) r → FirstB (Sb N k) r' → r < r')) := HL.out.1 rfl
          have HBC : Hid (Below w.heap.size w wc) := hB.trans (hbc.mono hB.size)
          have HRC : Hid (Below wr.heap.size wr wc) := hbc
          have HBW : Hid (Below w.heap.size w wr) := hB
          clear hB hbc HL HSO HF1 HFR c1
          go_wp2_with fail
          go_loopw [5] (fun i wv => ∃ j : Nat, j ≤ k ∧ i = .int .i64 j ∧ Hid (∀ t, t < j → Dis (Sb N k) (Sb N t)) ∧ Below wc.heap.size wc wv) (fun i _ => k - (intOf i).toNat)
          case atStart => exact ⟨0, Nat.zero_le _, rfl, fun j hj => absurd hj (Nat.not_lt_zero _), Below.refl _ _⟩
          case round =>
            obtain ⟨j, hj, rfl, HD, hB⟩ := hrel
            by_cases hjl : j < k
            · have hjz : (j : Int) < (k : Int) := by omega
              have hjn : (j : Int) < (n : Int) := by omega
              have hBv : Below w.heap.size w wr := HBC.out.trans (hB.mono HBC.out.size)
              obtain ⟨c1, g1, s1⟩ := (hc.below hBv) k hlt
              obtain ⟨c2, g2, s2⟩ := (hc.below hBv) j (by omega)
              have HM : Hid (Calls Tryd.prog 58 #[.slice (N.a k) (N.n k) (N.cap k), .slice (N.a j) (N.n j) (N.cap j)] wr.drew fun e w' => ∃ (a : Option Addr) (q cap : Nat), e = .returned (.slice a q cap) ∧ (q = 0 ↔ Dis (Sb N k) (Sb N j)) ∧ q ≤ 256 ∧ Below wr.drew.heap.size wr.drew w') := by
                have hd : Below wr.heap.size wr wr.drew := (Below.refl _ _).drew
                exact specMeetLen_any N k j _ g1 (s1.below hd) g2 (s2.below hd) (hni k hlt) (hni j (by omega)) HLL.out.1 (HP.out.1 j hjl).ok
              have HAT : Hid (∀ V, Below wr.drew.heap.size wr.drew V → V.cell? ⟨b, off + k, none⟩ = some (.slice (N.a k) (N.n k) (N.cap k)) ∧ V.cell? ⟨b, off + j, none⟩ = some (.slice (N.a j) (N.n j) (N.cap j))) := fun V hV => by
                have hVV : Below wr.heap.size wr V := (Below.refl _ _).drew.trans hV
                exact ⟨(hVV.cell (p := ⟨_, _, none⟩) (World.block_lt_of_cell? _ _ c1)).trans c1, (hVV.cell (p := ⟨_, _, none⟩) (World.block_lt_of_cell? _ _ c2)).trans c2⟩
              have HBN : Hid (Below wc.heap.size wc wr) := hB
              clear g1 s1 g2 s2 hBv hB
              go_wp2_with fail
              go_region_held (fun w' => w'.cell? ⟨b, off + k, none⟩ = some (.slice (N.a k) (N.n k) (N.cap k)) ∧ w'.cell? ⟨b, off + j, none⟩ = some (.slice (N.a j) (N.n j) (N.cap j))) (go_keep)
                (first | (go_at_call 58; refine HM.out.mono ?_; rintro e w2 ⟨qa, q, qc, rfl, hq, hq256, hb2⟩; have HQ : Hid (q = 0 ↔ Dis (Sb N k) (Sb N j)) := hq; clear hq; obtain ⟨z0, z1⟩ := HAT.out w2 hb2))
              all_goals by_cases hq0 : 0 < q
              all_goals go_wp2_with fail
              all_goals first
                | (go_ret
                   exact .no (fun h => by have := HQ.out.2 ((h.1 k hlt).dis j hjl); omega) (HBC.out.trans ((HBN.out.drew.trans (hb2.mono HBN.out.drew.size)).mono HBC.out.size)))
                | (go_roundw
                   case rel => exact ⟨j + 1, by omega, by go_num, fun t ht => (by by_cases ej : t = j; exact ej ▸ HQ.out.1 (by omega); exact HD.out t (by omega)), HBN.out.drew.trans (hb2.mono HBN.out.drew.size)⟩
                   case measure => simp [intOf]; omega)
            · have hej : j = k := by omega
              have hjz : ¬ (j : Int) < (k : Int) := by omega
              have HD2 : Hid (PUpto N (k + 1)) := HP.out.1.snoc ⟨HLL.out.1, HLL.out.2.1, HLL.out.2.2, fun t ht => HD.out t (by omega)⟩
              obtain ⟨q, hq⟩ : ∃ q, q = cntb (Sb N k) 256 := ⟨_, rfl⟩
              have hcq : c + q ≤ 256 := by
                have h1 := sum_le HD2.out
                rw [sumCb, ← HP.out.2, ← hq] at h1
                exact h1
              have HS2 : Hid (c + q = sumCb N (k + 1)) := by rw [Hid, sumCb, ← HP.out.2, hq]
              have hBv : Below w.heap.size w wr := HBC.out.trans (hB.mono HBC.out.size)
              obtain ⟨c1, g1, s1⟩ := (hc.below hBv) k hlt
              have HZ := specSetSize_any (N.a k) (N.b k) (N.off k) (N.cap k) (N.n k) (N.L k) (N.H k) wr g1 s1 (hni k hlt) q hq
              have HZZ : Hid (Calls Tryd.prog 59 #[.slice (N.a k) (N.n k) (N.cap k)] wr fun e w' => e = .returned (.int .i64 q) ∧ w' = wr) := HZ
              have HBV : Hid (Below w.heap.size w wr) := hBv
              clear HZ hq g1 s1 hBv hB HD HP HLL
              go_wp2_with fail
              refine HZZ.out.mono ?_
              rintro e w2 ⟨rfl, hw2⟩
              subst w2
              go_wp2_with fail
              go_roundw
              case rel => exact ⟨k + 1, c + q, by omega, by go_num, by go_num, hcq, ⟨HD2.out, HS2.out⟩, HBV.out⟩
              case measure => simp [intOf]; omega
        · go_wp2_with fail
          go_ret
          exact .no (fun h => by
            have hp := h.1 k hlt
            have := HL.out.2 ⟨hp.ok, hp.ne, hp.ord⟩
            cases this) (hB.trans (hbc.mono hB.size))
    · obtain rfl : k = n := by omega
      have hcd : ((c : Int) == 256) = decide (c = 256) := by by_cases e : c = 256 <;> simp [e]; omega
      go_wp2_with fail
      go_ret
      exact ⟨decide (c = 256), rfl, by rw [decide_eq_true_eq, good_of_sum HP.out.1, HP.out.2], hB⟩
end Go.Proofs.YtolddecfibdblaaDoor

