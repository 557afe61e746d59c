/- the walk of LeastTwo of the model -/
import Derived.Test.YtbfpnndcbaffoaaDoorKc1
namespace Go.Proofs.YtbfpnndcbaffoaaDoor
open Go.RowKit Go.Shelf
set_option linter.unusedVariables false
set_option linter.unusedSimpArgs false

set_option maxRecDepth 100000 in
set_option maxHeartbeats 4000000 in
theorem specLeastTwo_any (D : Dx) (s t : Int) (w : World) (h : DIn w D) (hm : DLe D 4194304) :
    Calls Tryd.prog 20 #[dv D, .int .i64 s, .int .i64 t] w (TwoRes (TwoR D s t) w) := by
  obtain ⟨W0, hW0⟩ : ∃ W0, W0 = w.alloc (.cells #[.slice D.pa D.pn D.pc, .slice D.ra D.rn D.rc, .slice D.aa D.an D.ac] 32) := ⟨_, rfl⟩
  have hb0 : Below w.heap.size w W0 := by rw [hW0]; exact (Below.refl _ _).alloc (Nat.le_refl _) _
  have HX : Hid (∀ V, Below W0.heap.size W0 V → V.cell? ⟨w.heap.size, 0, none⟩ = some (.slice D.pa D.pn D.pc) ∧ V.cell? ⟨w.heap.size, 1, none⟩ = some (.slice D.ra D.rn D.rc) ∧ V.cell? ⟨w.heap.size, 2, none⟩ = some (.slice D.aa D.an D.ac)) := fun V hV => by
    refine ⟨((bcell hV).1 _ _ (by rw [hW0]; simp)).trans ?_, ((bcell hV).1 _ _ (by rw [hW0]; simp)).trans ?_, ((bcell hV).1 _ _ (by rw [hW0]; simp)).trans ?_⟩ <;> (rw [hW0]; simp [go_sem])
  have H1 : Hid (Calls Tryd.prog 25 #[.agg #[.slice D.pa D.pn D.pc, .slice D.ra D.rn D.rc, .slice D.aa D.an D.ac]] W0 (IsB (DOk D) W0)) := specDfaOk_any D W0 (h.below hb0) hm
  have H2 : Hid (∀ (V : World) (q : Int), Below w.heap.size w V → DOk D → -1 ≤ q ∧ q < D.rn → Calls Tryd.prog 43 #[.agg #[.slice D.pa D.pn D.pc, .slice D.ra D.rn D.rc, .slice D.aa D.an D.ac], .int .i64 q] V fun e w' => e = .returned (.int .i64 (accI D q)) ∧ Below V.heap.size V w') := fun V q hV hd hq => specAcc_any D q V (h.below hV) hd hq
  have H3 : Hid (∀ (V : World) (q : Int) (k : Nat), Below w.heap.size w V → DOk D → -1 ≤ q ∧ q < D.rn → k < D.pn → Calls Tryd.prog 45 #[.agg #[.slice D.pa D.pn D.pc, .slice D.ra D.rn D.rc, .slice D.aa D.an D.ac], .int .i64 q, .int .i64 (bk D k)] V fun e w' => e = .returned (.int .i64 (nxI D q k)) ∧ Below V.heap.size V w') := fun V q k hV hd hq hk => specTo_any D q k V (h.below hV) hm hd hq hk
  have HI : Hid (∀ V, Below w.heap.size w V → DIn V D) := fun V hV => h.below hV
  have HM : Hid (DLe D 4194304) := hm
  have HB0 : Hid (Below w.heap.size w W0) := hb0
  have hrn4 := hm.r
  rw [dv]
  clear h hm
  go_enter Tryd.func20, Tryd.ntmps20
  go_wp2_with fail
  rw [← hW0]
  clear hW0 hb0
  refine H1.out.mono ?_
  rintro e w1 ⟨ok, rfl, hok, hb1⟩
  have HOK : Hid (ok = true ↔ DOk D) := hok
  obtain ⟨p0, p1, p2⟩ := HX.out _ hb1
  have HW1 : Hid (Below W0.heap.size W0 w1) := hb1
  have HB1 : Hid (Below w.heap.size w w1) := HB0.out.trans (hb1.mono HB0.out.size)
  clear hok
  cases ok
  · go_wp2_with fail
    refine bodyPost_ret (v := .tuple #[.bool false, .string ⟨#[]⟩]) (by simp [results, Tryd.results20, go_sem]) rfl ?_
    exact .mk' (.inr ⟨(fun h => by have := HOK.out.2 h.1; cases this), rfl, rfl⟩) HB1.out
  have HD : Hid (DOk D) := HOK.out.1 rfl
  by_cases h1 : s < 0
  · go_wp2_with fail
    refine bodyPost_ret (v := .tuple #[.bool false, .string ⟨#[]⟩]) (by simp [results, Tryd.results20, go_sem]) rfl ?_
    exact .mk' (.inr ⟨(fun h => by have := h.2.1; omega), rfl, rfl⟩) HB1.out
  by_cases h2 : (D.rn : Int) ≤ s
  · go_wp2_with fail
    refine bodyPost_ret (v := .tuple #[.bool false, .string ⟨#[]⟩]) (by simp [results, Tryd.results20, go_sem]) rfl ?_
    exact .mk' (.inr ⟨(fun h => by have := h.2.2.1; omega), rfl, rfl⟩) HB1.out
  by_cases h3 : t < 0
  · go_wp2_with fail
    refine bodyPost_ret (v := .tuple #[.bool false, .string ⟨#[]⟩]) (by simp [results, Tryd.results20, go_sem]) rfl ?_
    exact .mk' (.inr ⟨(fun h => by have := h.2.2.2.1; omega), rfl, rfl⟩) HB1.out
  by_cases h4 : (D.rn : Int) ≤ t
  · go_wp2_with fail
    refine bodyPost_ret (v := .tuple #[.bool false, .string ⟨#[]⟩]) (by simp [results, Tryd.results20, go_sem]) rfl ?_
    exact .mk' (.inr ⟨(fun h => by have := h.2.2.2.2; omega), rfl, rfl⟩) HB1.out
  have HST : Hid (InR D s t) := by unfold Hid InR; omega
  have hgw : w.heap.size < w1.heap.size := World.block_lt_of_cell? _ _ p0
  have d1 : decide (s < 0) = false := by simp; omega
  have d2 : decide ((D.rn : Int) ≤ s) = false := by simp; omega
  have d3 : decide (t < 0) = false := by simp; omega
  have d4 : decide ((D.rn : Int) ≤ t) = false := by simp; omega
  clear h1 h2 h3 h4
  go_wp2_with fail
  obtain ⟨W1, hW1⟩ : ∃ W1, W1 = ((w1.alloc (.cells #[.int .i64 s] 3)).alloc (.cells #[.int .i64 t] 3)).alloc (.cells #[.string ⟨#[]⟩] 9) := ⟨_, rfl⟩
  have HBW : Hid (Below w1.heap.size w1 W1) := by rw [Hid, hW1]; exact (((Below.refl _ _).alloc (Nat.le_refl _) _).alloc (by simp) _).alloc (by simp; omega) _
  have HE0 : Hid (Ents W1 w1.heap.size (lev D s t 0) 1 w1.heap.size 1 (w1.heap.size + 1) 1 (w1.heap.size + 1 + 1) 1) := by
    rw [Hid, hW1]
    have e1 := World.ownsRow_lit (base := w1.heap.size) (e := 3) (size := 1) w1 #[.int .i64 s] 1 (Nat.le_refl _) (by unfold maxLen; omega) rfl
    have e2 := World.ownsRow_lit (base := w1.heap.size) (e := 3) (size := 1) (w1.alloc (.cells #[.int .i64 s] 3)) #[.int .i64 t] 1 (by simp) (by unfold maxLen; omega) rfl
    have e3 := World.ownsRow_lit (base := w1.heap.size) (e := 9) (size := 1) ((w1.alloc (.cells #[.int .i64 s] 3)).alloc (.cells #[.int .i64 t] 3)) #[.string ⟨#[]⟩] 1 (by simp; omega) (by unfold maxLen; omega) rfl
    exact ⟨rfl, (e1.alloc _).alloc _, by simpa [lev] using e2.alloc _, by simpa [lev] using e3, by omega⟩
  have hsW : w1.heap.size + 3 = W1.heap.size := by rw [hW1]; simp
  rw [← hW1]
  clear hW1 p0 p1 p2
  go_loopw [8, 9, 10, 11] (fun va vb vw i wr => ∃ (n m ga ca gb cb gw cw : Nat), i = .int .i64 n ∧ va = .slice (some ⟨ga, 0, none⟩) m ca ∧ vb = .slice (some ⟨gb, 0, none⟩) m cb ∧ vw = .slice (some ⟨gw, 0, none⟩) m cw ∧ n ≤ m ∧ m ≤ 1681 ∧ Hid (Ents wr w1.heap.size (lev D s t n) m ga ca gb cb gw cw) ∧ Hid (TwoAt D s t n) ∧ Hid (Below w1.heap.size w1 wr)) (fun _ _ _ i _ => 1681 - (intOf i).toNat)
  case atStart => exact ⟨0, 1, _, _, _, _, _, _, rfl, rfl, rfl, rfl, by omega, by omega, HE0.out, fun j hj => absurd hj (Nat.not_lt_zero _), HBW.out⟩
  case round =>
    obtain ⟨n, m, ga, ca, gb, cb, gw, cw, rfl, rfl, rfl, rfl, hnm, hm, HE, HT, HB⟩ := hrel
    by_cases hlt : n < m
    · have hltz : (n : Int) < (m : Int) := by omega
      have hnl : n < (lev D s t n).length := by rw [HE.out.len]; exact hlt
      obtain ⟨⟨x, y, u⟩, he⟩ : ∃ e : Ent, (lev D s t n)[n]? = some e := ⟨_, List.getElem?_eq_getElem hnl⟩
      obtain ⟨c1, c2, c3⟩ := HE.out.at he
      have HG : Hid ((lev D s t n)[n]? = some (x, y, u)) := he
      obtain ⟨hx, hy, hu⟩ := (lev_ok HD.out HST.out n).bd _ (List.mem_of_getElem? he)
      simp only at c1 c2 c3 hx hy hu
      obtain ⟨p0, p1, p2⟩ := HX.out wr (HW1.out.trans (HB.out.mono HW1.out.size))
      have HA1 : Hid (∀ V, Below wr.heap.size wr V → Calls Tryd.prog 43 #[.agg #[.slice D.pa D.pn D.pc, .slice D.ra D.rn D.rc, .slice D.aa D.an D.ac], .int .i64 x] V fun e w' => e = .returned (.int .i64 (accI D x)) ∧ Below V.heap.size V w') := fun V hV => H2.out V x (HB1.out.trans ((HB.out.trans (hV.mono HB.out.size)).mono HB1.out.size)) HD.out hx
      have HA2 : Hid (∀ V, Below wr.heap.size wr V → Calls Tryd.prog 43 #[.agg #[.slice D.pa D.pn D.pc, .slice D.ra D.rn D.rc, .slice D.aa D.an D.ac], .int .i64 y] V fun e w' => e = .returned (.int .i64 (accI D y)) ∧ Below V.heap.size V w') := fun V hV => H2.out V y (HB1.out.trans ((HB.out.trans (hV.mono HB.out.size)).mono HB1.out.size)) HD.out hy
      have HC : Hid (∀ V, Below wr.heap.size wr V → (V.cell? ⟨w.heap.size, 0, none⟩ = some (.slice D.pa D.pn D.pc) ∧ V.cell? ⟨w.heap.size, 1, none⟩ = some (.slice D.ra D.rn D.rc) ∧ V.cell? ⟨w.heap.size, 2, none⟩ = some (.slice D.aa D.an D.ac)) ∧ V.cell? ⟨ga, n, none⟩ = some (.int .i64 x) ∧ V.cell? ⟨gb, n, none⟩ = some (.int .i64 y) ∧ V.cell? ⟨gw, n, none⟩ = some (.string u)) := fun V hV => by
        obtain ⟨d1, d2, d3⟩ := (HE.out.below hV).at HG.out
        exact ⟨HX.out V (HW1.out.trans ((HB.out.trans (hV.mono HB.out.size)).mono HW1.out.size)), d1, d2, d3⟩
      clear hnl he
      have hbd : Below wr.heap.size wr wr.drew := (Below.refl _ _).drew
      have HBD : Hid (Below wr.heap.size wr wr.drew) := hbd
      clear hbd
      go_wp2_with fail
      go_cut [66] from 54 to 66 (fun v wc => v = .bool (accI D x != accI D y) ∧ Below wr.heap.size wr wc)
      case first =>
        go_region_held (fun V => (V.cell? ⟨w.heap.size, 0, none⟩ = some (.slice D.pa D.pn D.pc) ∧ V.cell? ⟨w.heap.size, 1, none⟩ = some (.slice D.ra D.rn D.rc) ∧ V.cell? ⟨w.heap.size, 2, none⟩ = some (.slice D.aa D.an D.ac)) ∧ V.cell? ⟨ga, n, none⟩ = some (.int .i64 x) ∧ V.cell? ⟨gb, n, none⟩ = some (.int .i64 y)) (go_keep)
          (first
            | (go_at_call 43; (with_reducible refine (HA2.out wX HBX.out).mono ?_); rintro e wY ⟨rfl, hbY⟩; have HBE : Hid (Below wr.heap.size wr wY) := HBX.out.trans (hbY.mono HBX.out.size); obtain ⟨⟨q0, q1, q2⟩, q3, q4, q5⟩ := HC.out _ HBE.out)
            | (go_at_call 43; (with_reducible refine (HA1.out wY HBY.out).mono ?_); rintro e wX ⟨rfl, hbX⟩; have HBE : Hid (Below wr.heap.size wr wX) := HBY.out.trans (hbX.mono HBY.out.size); obtain ⟨⟨q0, q1, q2⟩, q3, q4, q5⟩ := HC.out _ HBE.out)
            | (go_at_call 43; (with_reducible refine (HA1.out wr.drew HBD.out).mono ?_); rintro e wX ⟨rfl, hbX⟩; have HBX : Hid (Below wr.heap.size wr wX) := HBD.out.trans (hbX.mono HBD.out.size); obtain ⟨⟨q0, q1, q2⟩, q3, q4, q5⟩ := HC.out _ HBX.out)
            | (go_at_call 43; (with_reducible refine (HA2.out wr.drew HBD.out).mono ?_); rintro e wY ⟨rfl, hbY⟩; have HBY : Hid (Below wr.heap.size wr wY) := HBD.out.trans (hbY.mono HBD.out.size); obtain ⟨⟨q0, q1, q2⟩, q3, q4, q5⟩ := HC.out _ HBY.out))
        all_goals go_wp2_with fail
        all_goals
          go_meet
          exact ⟨rfl, HBE.out⟩
      case rest =>
        obtain ⟨rfl, hbc⟩ := hcut
        have HBC : Hid (Below wr.heap.size wr wc) := hbc
        clear p0 p1 p2 c1 c2 c3 hbc
        obtain ⟨⟨p0, p1, p2⟩, c1, c2, c3⟩ := HC.out wc HBC.out
        have hpn4 : D.pn ≤ 4194304 := HM.out.p
        by_cases ha : accI D x = accI D y
        · have hab : (accI D x != accI D y) = false := by simp [ha]
          have HAE : Hid (accI D x = accI D y) := ha
          rw [hab]
          clear ha hab
          go_wp2_with fail
          have hy0 : (rowE D (x, y, u) (lev D s t n) 0).length = m := HE.out.len
          go_loopw [8, 9, 10, 12] (fun va vb vw i wk => ∃ (k m2 ga ca gb cb gw cw : Nat), i = .int .i64 k ∧ va = .slice (some ⟨ga, 0, none⟩) m2 ca ∧ vb = .slice (some ⟨gb, 0, none⟩) m2 cb ∧ vw = .slice (some ⟨gw, 0, none⟩) m2 cw ∧ k ≤ D.pn ∧ n < m2 ∧ m2 ≤ 1681 ∧ Hid (Ents wk w1.heap.size (rowE D (x, y, u) (lev D s t n) k) m2 ga ca gb cb gw cw) ∧ Hid (Below w1.heap.size w1 wk)) (fun _ _ _ i _ => D.pn - (intOf i).toNat)
          case atStart => exact ⟨0, m, _, _, _, _, _, _, rfl, rfl, rfl, rfl, by omega, hlt, hm, HE.out.below HBC.out, HB.out.trans (HBC.out.mono HB.out.size)⟩
          case round =>
            rename World => wk
            clear p0 p1 p2 c1 c2 c3 hy0
            obtain ⟨k, m2, ga, ca, gb, cb, gw, cw, rfl, rfl, rfl, rfl, hk, hn2, hm2, HE2, HB2⟩ := hrel
            obtain ⟨p0, p1, p2⟩ := HX.out wk (HW1.out.trans (HB2.out.mono HW1.out.size))
            by_cases hkl : k < D.pn
            · have hkz : (k : Int) < (D.pn : Int) := by omega
              have hdi := HI.out wk (HB1.out.trans (HB2.out.mono HB1.out.size))
              have hpa : D.pa = some ⟨D.pb, D.poff, none⟩ := hdi.pg (by omega)
              obtain ⟨f1, f2, f3⟩ := hdi.p k hkl
              rw [hpa] at p0
              have HSF : Hid (Calls Tryd.prog 44 #[.slice (D.P.a k) (D.P.n k) (D.P.cap k)] wk fun e w' => e = .returned (.int .i64 (bk D k)) ∧ w' = wk) := by
                refine (specSetFirst_any _ _ _ _ _ _ _ wk f2 f3 (HM.out.pi k hkl)).mono fun e w' ⟨r, e1, e2, e3⟩ => ⟨?_, e3⟩
                have e4 := bk_eq e2 (FirstB.pos e2 (HD.out.1.1 k hkl).ne)
                rw [e1, e4]
              have hpre : (rowE D (x, y, u) (lev D s t n) k)[n]? = some (x, y, u) := by
                obtain ⟨M, hM⟩ := rowE_pre D (x, y, u) (lev D s t n) k
                rw [pre_get hM (by rw [HE.out.len]; exact hlt)]; exact HG.out
              obtain ⟨c1, c2, c3⟩ := HE2.out.at hpre
              have HP : Hid ((rowE D (x, y, u) (lev D s t n) k)[n]? = some (x, y, u)) := hpre
              simp only at c1 c2 c3
              have hn2z : (n : Int) < (m2 : Int) := by omega
              clear hpre f2 f3 hdi
              go_wp2_with fail
              refine HSF.out.mono ?_
              rintro e w2 ⟨rfl, hw⟩
              subst w2
              have HPA : Hid (D.pa = some ⟨D.pb, D.poff, none⟩) := hpa
              rw [← hpa] at p0
              clear f1 hpa
              obtain ⟨B, hB⟩ : ∃ B : Nat, bk D k = B := ⟨_, rfl⟩
              obtain ⟨x', hx'⟩ : ∃ x', nxI D x k = x' := ⟨_, rfl⟩
              obtain ⟨y', hy'⟩ : ∃ y', nxI D y k = y' := ⟨_, rfl⟩
              have HEK : Hid (entK D (x, y, u) k = (x', y', u ++ ⟨#[UInt8.ofNat B]⟩)) := by rw [Hid, entK, hx', hy', hB]
              have HB256 : Hid (B < 256) := hB ▸ bk_lt D k
              have HT1 : Hid (∀ V, Below wk.heap.size wk V → Calls Tryd.prog 45 #[.agg #[.slice D.pa D.pn D.pc, .slice D.ra D.rn D.rc, .slice D.aa D.an D.ac], .int .i64 x, .int .i64 B] V fun e w' => e = .returned (.int .i64 x') ∧ Below V.heap.size V w') := fun V hV => by
                rw [← hB, ← hx']; exact H3.out V x k (HB1.out.trans ((HB2.out.trans (hV.mono HB2.out.size)).mono HB1.out.size)) HD.out hx hkl
              have HT2 : Hid (∀ V, Below wk.heap.size wk V → Calls Tryd.prog 45 #[.agg #[.slice D.pa D.pn D.pc, .slice D.ra D.rn D.rc, .slice D.aa D.an D.ac], .int .i64 y, .int .i64 B] V fun e w' => e = .returned (.int .i64 y') ∧ Below V.heap.size V w') := fun V hV => by
                rw [← hB, ← hy']; exact H3.out V y k (HB1.out.trans ((HB2.out.trans (hV.mono HB2.out.size)).mono HB1.out.size)) HD.out hy hkl
              have HC2 : Hid (∀ V, Below wk.heap.size wk V → (V.cell? ⟨w.heap.size, 0, none⟩ = some (.slice D.pa D.pn D.pc) ∧ V.cell? ⟨w.heap.size, 1, none⟩ = some (.slice D.ra D.rn D.rc) ∧ V.cell? ⟨w.heap.size, 2, none⟩ = some (.slice D.aa D.an D.ac)) ∧ V.cell? ⟨ga, n, none⟩ = some (.int .i64 x) ∧ V.cell? ⟨gb, n, none⟩ = some (.int .i64 y) ∧ V.cell? ⟨gw, n, none⟩ = some (.string u)) := fun V hV => by
                obtain ⟨d1, d2, d3⟩ := (HE2.out.below hV).at HP.out
                exact ⟨HX.out V (HW1.out.trans ((HB2.out.trans (hV.mono HB2.out.size)).mono HW1.out.size)), d1, d2, d3⟩
              rw [hB]
              have hbd : Below wk.heap.size wk wk.drew := (Below.refl _ _).drew
              have HBD : Hid (Below wk.heap.size wk wk.drew) := hbd
              clear hbd hB hx' hy'
              go_wp2_with fail
              go_cut [14] from 84 to 90 (fun v wc => v = .int .i64 x' ∧ Below wk.heap.size wk wc)
              case first =>
                go_region_held (fun V => (V.cell? ⟨w.heap.size, 0, none⟩ = some (.slice D.pa D.pn D.pc) ∧ V.cell? ⟨w.heap.size, 1, none⟩ = some (.slice D.ra D.rn D.rc) ∧ V.cell? ⟨w.heap.size, 2, none⟩ = some (.slice D.aa D.an D.ac)) ∧ V.cell? ⟨ga, n, none⟩ = some (.int .i64 x)) (go_keep)
                  (first | (go_at_call 45; (with_reducible refine (HT1.out wk.drew HBD.out).mono ?_); rintro e wX ⟨rfl, hbX⟩; have HBX : Hid (Below wk.heap.size wk wX) := HBD.out.trans (hbX.mono HBD.out.size); obtain ⟨⟨q0, q1, q2⟩, q3, q4, q5⟩ := HC2.out _ HBX.out))
                all_goals go_wp2_with fail
                all_goals
                  go_meet
                  exact ⟨rfl, HBX.out⟩
              case rest =>
                obtain ⟨rfl, hbc2⟩ := hcut
                rename World => w3
                have HB3 : Hid (Below wk.heap.size wk w3) := hbc2
                clear p0 p1 p2 c1 c2 c3 hbc2
                obtain ⟨⟨p0, p1, p2⟩, c1, c2, c3⟩ := HC2.out w3 HB3.out
                have HBD3 : Hid (Below w3.heap.size w3 w3.drew) := (Below.refl _ _).drew
                go_wp2_with fail
                go_cut [15] from 91 to 97 (fun v wc => v = .int .i64 y' ∧ Below w3.heap.size w3 wc)
                case first =>
                  go_region_held (fun V => (V.cell? ⟨w.heap.size, 0, none⟩ = some (.slice D.pa D.pn D.pc) ∧ V.cell? ⟨w.heap.size, 1, none⟩ = some (.slice D.ra D.rn D.rc) ∧ V.cell? ⟨w.heap.size, 2, none⟩ = some (.slice D.aa D.an D.ac)) ∧ V.cell? ⟨gb, n, none⟩ = some (.int .i64 y)) (go_keep)
                    (first | (go_at_call 45; (with_reducible refine (HT2.out w3.drew (HB3.out.trans (HBD3.out.mono HB3.out.size))).mono ?_); rintro e wX ⟨rfl, hbX⟩; have HBX : Hid (Below w3.heap.size w3 wX) := HBD3.out.trans (hbX.mono HBD3.out.size); obtain ⟨⟨q0, q1, q2⟩, q3, q4, q5⟩ := HC2.out _ (HB3.out.trans (HBX.out.mono HB3.out.size))))
                  all_goals go_wp2_with fail
                  all_goals
                    go_meet
                    exact ⟨rfl, HBX.out⟩
                case rest =>
                  obtain ⟨rfl, hbc3⟩ := hcut
                  rename World => w4
                  have HB4 : Hid (Below wk.heap.size wk w4) := HB3.out.trans (hbc3.mono HB3.out.size)
                  clear p0 p1 p2 c1 c2 c3 hbc3
                  obtain ⟨⟨p0, p1, p2⟩, c1, c2, c3⟩ := HC2.out w4 HB4.out
                  have HE4 : Hid (Ents w4 w1.heap.size (rowE D (x, y, u) (lev D s t n) k) m2 ga ca gb cb gw cw) := HE2.out.below HB4.out
                  go_wp2_with fail
                  go_loop [16, 17] (fun hv i => ∃ (j : Nat) (had : Bool), i = .int .i64 j ∧ hv = .bool had ∧ j ≤ m2 ∧ Hid (had = ((rowE D (x, y, u) (lev D s t n) k).take j).any (fun q => q.1 == x' && q.2.1 == y'))) (fun _ i => m2 - (intOf i).toNat)
                  case atStart => exact ⟨0, false, rfl, rfl, Nat.zero_le _, by simp [Hid]⟩
                  case round =>
                    obtain ⟨j, had, rfl, rfl, hj, HH⟩ := hrel
                    by_cases hjl : j < m2
                    · have hjz : (j : Int) < (m2 : Int) := by omega
                      have hjn : j < (rowE D (x, y, u) (lev D s t n) k).length := by rw [HE4.out.len]; exact hjl
                      obtain ⟨⟨qx, qy, qu⟩, hq⟩ : ∃ e : Ent, (rowE D (x, y, u) (lev D s t n) k)[j]? = some e := ⟨_, List.getElem?_eq_getElem hjn⟩
                      obtain ⟨d1, d2, d3⟩ := HE4.out.at hq
                      have HN : Hid (∀ b : Bool, b = (had || (qx == x' && qy == y')) → b = ((rowE D (x, y, u) (lev D s t n) k).take (j + 1)).any (fun q => q.1 == x' && q.2.1 == y')) := fun b hb => by rw [any_take_succ hq, ← HH.out, hb]
                      simp only at d1 d2 d3
                      clear hq hjn
                      cases had
                      · by_cases g1 : qx = x'
                        · have g1z : (qx == x') = true := by simp [g1]
                          by_cases g2 : qy = y'
                          · have g2z : (qy == y') = true := by simp [g2]
                            have HN' : Hid (true = ((rowE D (x, y, u) (lev D s t n) k).take (j + 1)).any (fun q => q.1 == x' && q.2.1 == y')) := HN.out true (by rw [g1z, g2z]; rfl)
                            clear g1 g2
                            go_wp2_with fail
                            go_round
                            case rel => exact ⟨j + 1, true, by go_num, rfl, by omega, HN'.out⟩
                            case measure => simp [intOf]; omega
                          · have g2z : (qy == y') = false := by simp [g2]
                            have HN' : Hid (false = ((rowE D (x, y, u) (lev D s t n) k).take (j + 1)).any (fun q => q.1 == x' && q.2.1 == y')) := HN.out false (by rw [g1z, g2z]; rfl)
                            clear g1 g2
                            go_wp2_with fail
                            go_round
                            case rel => exact ⟨j + 1, false, by go_num, rfl, by omega, HN'.out⟩
                            case measure => simp [intOf]; omega
                        · have g1z : (qx == x') = false := by simp [g1]
                          have HN' : Hid (false = ((rowE D (x, y, u) (lev D s t n) k).take (j + 1)).any (fun q => q.1 == x' && q.2.1 == y')) := HN.out false (by rw [g1z]; rfl)
                          clear g1
                          go_wp2_with fail
                          go_round
                          case rel => exact ⟨j + 1, false, by go_num, rfl, by omega, HN'.out⟩
                          case measure => simp [intOf]; omega
                      · have HN' : Hid (true = ((rowE D (x, y, u) (lev D s t n) k).take (j + 1)).any (fun q => q.1 == x' && q.2.1 == y')) := HN.out true rfl
                        go_wp2_with fail
                        go_round
                        case rel => exact ⟨j + 1, true, by go_num, rfl, by omega, HN'.out⟩
                        case measure => simp [intOf]; omega
                    · have hjz : ¬ (j : Int) < (m2 : Int) := by omega
                      have HHL : Hid (had = (rowE D (x, y, u) (lev D s t n) k).any (fun q => q.1 == x' && q.2.1 == y')) := by
                        have := HH.out
                        rw [List.take_of_length_le (by rw [HE4.out.len]; omega)] at this
                        exact this
                      cases had
                      · have HNH : Hid (¬ hasP (rowE D (x, y, u) (lev D s t n) k) x' y') := fun g => by
                          have h1 := any_hasP.2 g
                          rw [← HHL.out] at h1
                          cases h1
                        have HR : Hid (rowE D (x, y, u) (lev D s t n) (k + 1) = rowE D (x, y, u) (lev D s t n) k ++ [(x', y', u ++ ⟨#[UInt8.ofNat B]⟩)]) := by
                          rw [Hid, rowE, addK_not (by rw [HEK.out]; exact HNH.out), HEK.out]
                        have hm3 : m2 + 1 ≤ 1681 := by
                          have h1 := ((lev_ok HD.out HST.out n).mono (Nat.le_succ n)).row HD.out (e := (x, y, u)) ⟨hx, hy, hu⟩ (k := k + 1) (by omega)
                          have h2 := h1.len HD.out.2.1.2.1
                          rw [HR.out, List.length_append, HE4.out.len] at h2
                          simpa using h2
                        obtain ⟨i0, hi, hz0, hz1, hz2⟩ := info_parts kInfo3
                        have HBW4 : Hid (Below w1.heap.size w1 w4) := HB2.out.trans (HB4.out.mono HB2.out.size)
                        have hbs : w1.heap.size ≤ w4.heap.size := HBW4.out.size
                        go_wp2_with (at_builtin; first
                          | (refine wpList_append_own_at _ rfl _ _ 24 rfl w1.heap.size 3 i0 (.int .i64 0) 1 8 Tryd.underlying24 hi hz0 hz1 hz2 rfl (by decide) _ _ _ rfl (HOB.out.alloc _) ⟨w5.heap.size, 0, none⟩ 1 1 [.int .i64 y'] rfl rfl (cell_one_new _ _ _) (by simp [Value.oneCell']) (by unfold maxLen; omega) (by omega) (by rw [World.size_alloc]; omega) ?_; intro v' w6 hownB hgrB _ hatB; obtain ⟨gb', cb', rfl⟩ := ownsRow_succ hownB)
                          | (refine wpList_append_own_at _ rfl _ _ 24 rfl w1.heap.size 3 i0 (.int .i64 0) 1 8 Tryd.underlying24 hi hz0 hz1 hz2 rfl (by decide) _ _ _ rfl (HE4.out.a.alloc _) ⟨w4.heap.size, 0, none⟩ 1 1 [.int .i64 x'] rfl rfl (cell_one_new _ _ _) (by simp [Value.oneCell']) (by unfold maxLen; omega) (by omega) (by rw [World.size_alloc]; omega) ?_; intro v' w5 hownA hgrA _ hatA; obtain ⟨ga', ca', rfl⟩ := ownsRow_succ hownA
                             obtain ⟨hob, how, hs5, hn5, hb5⟩ := HE4.out.pushA hbs hownA hgrA hatA
                             have HOA : Hid (w5.ownsRow w1.heap.size 3 1 (.slice (some ⟨ga', 0, none⟩) (m2 + 1) ca') (m2 + 1) ((rowE D (x, y, u) (lev D s t n) k).map (fun e => .int .i64 e.1) ++ [.int .i64 x'])) := hownA
                             have HOB : Hid (w5.ownsRow w1.heap.size 3 1 (.slice (some ⟨gb, 0, none⟩) m2 cb) m2 ((rowE D (x, y, u) (lev D s t n) k).map (fun e => .int .i64 e.2.1))) := hob
                             have HOW : Hid (w5.ownsRow w1.heap.size 9 1 (.slice (some ⟨gw, 0, none⟩) m2 cw) m2 ((rowE D (x, y, u) (lev D s t n) k).map (fun e => .string e.2.2))) := how
                             have HN5 : Hid (ga' ≠ gb) := hn5
                             have HB5 : Hid (Below w1.heap.size w4 w5) := hb5
                             have hbs5 : w1.heap.size ≤ w5.heap.size := by omega
                             clear hownA hgrA hatA hob how hn5 hb5))
                        obtain ⟨hoa, how, hs6, hn6, hb6⟩ := pushB HOA.out HOB.out HOW.out HN5.out hbs5 hownB hgrB hatB
                        have HOA6 : Hid (w6.ownsRow w1.heap.size 3 1 (.slice (some ⟨ga', 0, none⟩) (m2 + 1) ca') (m2 + 1) ((rowE D (x, y, u) (lev D s t n) k).map (fun e => .int .i64 e.1) ++ [.int .i64 x'])) := hoa
                        have HOB6 : Hid (w6.ownsRow w1.heap.size 3 1 (.slice (some ⟨gb', 0, none⟩) (m2 + 1) cb') (m2 + 1) ((rowE D (x, y, u) (lev D s t n) k).map (fun e => .int .i64 e.2.1) ++ [.int .i64 y'])) := hownB
                        have HOW6 : Hid (w6.ownsRow w1.heap.size 9 1 (.slice (some ⟨gw, 0, none⟩) m2 cw) m2 ((rowE D (x, y, u) (lev D s t n) k).map (fun e => .string e.2.2))) := how
                        have HN6 : Hid (ga' ≠ gb') := hn6
                        have HBW6 : Hid (Below w1.heap.size w1 w6) := (HBW4.out.trans HB5.out).trans hb6
                        have hbs6 : w1.heap.size ≤ w6.heap.size := by omega
                        have c3' : w6.cell? ⟨gw, n, none⟩ = some (.string u) := by
                          rw [HOW6.out.cellAt n (by omega), List.getElem?_map, HP.out]; rfl
                        have hwr : IntKind.u8.wrap (B : Int) = (B : Int) := by rw [IntKind.wrap_u8]; have := HB256.out; omega
                        have hconv : ∀ (V : World) (g : Nat), V.cell? ⟨g, 0, none⟩ = some (.int .u8 (B : Int)) → (convert 65 9 (.slice (some ⟨g, 0, none⟩) 1 1)).run Tryd.prog V = .ok (.string ⟨#[UInt8.ofNat B]⟩) V := conv_one B HB256.out
                        have hgw6 : gw < w6.heap.size := (own_lt HOW6.out).2.1
                        clear hoa how hn6 hb6 hownB hgrB hatB hz0 hz1 hz2 hi
                        have hus : ¬ 9223372036854775807 < u.size + 1 := by omega
                        go_wp2_with fail
                        go_region_law (first
                          | (refine step_str rfl _ _ rfl w1.heap.size gw m2 cw _ rfl (own_below HOW6.out (by repeat (first | exact Below.refl _ _ | refine Below.drew ?_ | refine Below.alloc ?_ (by simp <;> omega) _))) w6.heap.size.succ rfl (u ++ ⟨#[UInt8.ofNat B]⟩) (by simp [go_sem]) (by omega) (by simp <;> omega) ?_
                             intro gw' cw' w7 hownW hgrW hatW
                             have HFIN : Hid (Ents w7 w1.heap.size (rowE D (x, y, u) (lev D s t n) (k + 1)) (m2 + 1) ga' ca' gb' cb' gw' cw' ∧ Below w1.heap.size w6 w7) := by
                               rw [HR.out]
                               exact pushW HE4.out.len HOA6.out HOB6.out HOW6.out HN6.out hbs6 (by repeat (first | exact Below.refl _ _ | refine Below.drew ?_ | refine Below.alloc ?_ (by simp <;> omega) _)) hownW hgrW
                             clear hownW hgrW hatW))
                        all_goals go_wp2_with fail
                        all_goals go_roundw
                        all_goals first
                          | exact ⟨k + 1, m2 + 1, ga', ca', gb', cb', gw', cw', by go_num, rfl, rfl, rfl, by omega, by omega, hm3, HFIN.out.1, HBW6.out.trans HFIN.out.2⟩
                          | (simp [intOf]; omega)
                      · have HR : Hid (rowE D (x, y, u) (lev D s t n) (k + 1) = rowE D (x, y, u) (lev D s t n) k) := by
                          rw [Hid, rowE]
                          exact addK_has (by rw [HEK.out]; exact any_hasP.1 HHL.out.symm)
                        go_wp2_with fail
                        go_roundw
                        case rel => exact ⟨k + 1, m2, ga, ca, gb, cb, gw, cw, by go_num, rfl, rfl, rfl, by omega, hn2, hm2, by rw [HR.out]; exact HE4.out, HB2.out.trans (HB4.out.mono HB2.out.size)⟩
                        case measure => simp [intOf]; omega
            · have hkz : ¬ (k : Int) < (D.pn : Int) := by omega
              have HL : Hid (lev D s t (n + 1) = rowE D (x, y, u) (lev D s t n) k) := by
                rw [Hid, lev, List.getD_eq_getElem?_getD, HG.out]
                rw [show k = D.pn by omega]
                rfl
              have HT2 : Hid (TwoAt D s t (n + 1)) := fun j hj => by
                by_cases ej : j = n
                · subst ej; exact ⟨_, HG.out, HAE.out⟩
                · exact HT.out j (by omega)
              go_wp2_with fail
              go_roundw
              case rel => exact ⟨n + 1, m2, ga, ca, gb, cb, gw, cw, by go_num, rfl, rfl, rfl, by omega, hm2, by rw [HL.out]; exact HE2.out, HT2.out, HB2.out⟩
              case measure => simp [intOf]; omega
        · have hab : (accI D x != accI D y) = true := by simp [ha]
          have HAE : Hid (¬ accI D x = accI D y) := ha
          clear ha
          go_wp2_with fail
          go_quiet (fail)
          go_wp2_with fail
          refine bodyPost_ret (v := .tuple #[.bool false, .string u]) (by simp [results, Tryd.results20, go_sem]) rfl ?_
          exact .mk' (.inl ⟨HD.out, HST.out, n, HT.out, .inl ⟨(x, y, u), HG.out, HAE.out, rfl, rfl⟩⟩) (HB1.out.trans (below_drewN (HB.out.trans (HBC.out.mono HB.out.size)) _ |>.mono HB1.out.size))
    · go_wp2_with fail
      refine bodyPost_ret (v := .tuple #[.bool true, .string ⟨#[]⟩]) (by simp [results, Tryd.results20, go_sem]) rfl ?_
      exact .mk' (.inl ⟨HD.out, HST.out, n, HT.out, .inr ⟨List.getElem?_eq_none (by rw [HE.out.len]; omega), rfl, rfl⟩⟩) (HB1.out.trans (HB.out.mono HB1.out.size))
end Go.Proofs.YtbfpnndcbaffoaaDoor

