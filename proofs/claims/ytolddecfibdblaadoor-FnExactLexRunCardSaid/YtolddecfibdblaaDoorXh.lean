/- LexAt: the model's side -/
import Derived.Test.YtolddecfibdblaaDoorXg
namespace Go.Proofs.YtolddecfibdblaaDoor
open Go.RowKit
set_option linter.unusedVariables false
set_option linter.unusedSimpArgs false

set_option maxRecDepth 100000 in
set_option maxHeartbeats 4000000 in
theorem specAt_any (D : Dx) (t : ByteArray) (a : Nat) (w : World) (h : DIn w D) (hm : DLe D 4194304) (hd : DOk D) (ha : a ≤ t.size) (hts : t.size ≤ 4194304) :
    Calls Tryd.prog 35 #[dv D, .string t, .int .i64 a] w (IsTwo (LexV D t a) w) := by
  obtain ⟨W0, hW0⟩ : ∃ W0, W0 = w.alloc (.cells #[.slice D.pa D.pn D.pc, .slice D.ra D.rn D.rc, .slice D.aa D.an D.ac] 31) := ⟨_, rfl⟩
  have hb0 : Below w.heap.size w W0 := by rw [hW0]; exact (Below.refl _ _).alloc (Nat.le_refl _) _
  have HX : Hid (∀ V, Below W0.heap.size W0 V → V.cell? ⟨w.heap.size, 0, none⟩ = some (.slice D.pa D.pn D.pc) ∧ V.cell? ⟨w.heap.size, 1, none⟩ = some (.slice D.ra D.rn D.rc) ∧ V.cell? ⟨w.heap.size, 2, none⟩ = some (.slice D.aa D.an D.ac)) := fun V hV => by
    refine ⟨((bcell hV).1 _ _ (by rw [hW0]; simp)).trans ?_, ((bcell hV).1 _ _ (by rw [hW0]; simp)).trans ?_, ((bcell hV).1 _ _ (by rw [hW0]; simp)).trans ?_⟩ <;> (rw [hW0]; simp [go_sem])
  have H2 : Hid (∀ (V : World) (q : Nat) (x : Nat), Below w.heap.size w V → q < D.rn → Calls Tryd.prog 46 #[.agg #[.slice D.pa D.pn D.pc, .slice D.ra D.rn D.rc, .slice D.aa D.an D.ac], .int .i64 q, .int .i64 x] V fun e w' => (∃ r : Int, e = .returned (.int .i64 r) ∧ NextOf D q x r) ∧ Below V.heap.size V w') := fun V q x hV hq => specNext_any D q x V (h.below hV) hm hd hq
  have HA : Hid (∀ V, Below w.heap.size w V → Ip V D.ab D.aoff D.an D.A) := fun V hV => (h.below hV).a
  have HB0 : Hid (Below w.heap.size w W0) := hb0
  have HD : Hid (DOk D) := hd
  have hrn4 := hm.r
  have haa : D.aa = some ⟨D.ab, D.aoff, none⟩ := h.ag (by rw [hd.2.2.1]; have := hd.2.1.1; omega)
  have HAN : Hid (D.an = D.rn) := hd.2.2.1
  rw [haa] at hW0 HX H2
  rw [dv, haa]
  clear h hm hd haa
  go_enter Tryd.func35, Tryd.ntmps35
  go_wp2_with fail
  rw [← hW0]
  clear hW0 hb0
  go_loopw [8, 9, 10, 11] (fun r e s i wr => ∃ (j : Nat) (z : Ls), a + j ≤ t.size ∧ i = .int .i64 (a + j : Nat) ∧ s = .int .i64 z.q ∧ r = .int .i64 z.r ∧ e = .int .i64 z.t ∧ Hid (LexSt D t a j z) ∧ Below W0.heap.size W0 wr) (fun _ _ _ i _ => t.size - (intOf i).toNat)
  case atStart => exact ⟨0, ⟨0, -1, a⟩, ha, rfl, rfl, rfl, rfl, rfl, Below.refl _ _⟩
  case round =>
    obtain ⟨j, z, hj, rfl, rfl, rfl, rfl, HR, hB⟩ := hrel
    obtain ⟨p0, p1, p2⟩ := HX.out _ hB
    obtain ⟨⟨z0, z1⟩, zr, zt, _, _⟩ := HR.out.bd HD.out
    obtain ⟨c, hc⟩ : ∃ c : Nat, c = a + j := ⟨_, rfl⟩
    rw [← hc] at hj ⊢
    have HC : Hid (c = a + j) := hc
    clear hc
    by_cases hlt : c < t.size
    · have hltz : (c : Int) < (t.size : Int) := by omega
      by_cases hq0 : 0 ≤ z.q
      · obtain ⟨q, hq⟩ : ∃ q : Nat, z.q = (q : Int) := ⟨z.q.toNat, by omega⟩
        rw [hq] at hq0 z0 z1 ⊢
        have HQ : Hid (z.q = (q : Int)) := hq
        clear hq
        have hqn : q < D.rn := by omega
        go_wp2_with fail
        obtain ⟨x, hx⟩ : ∃ x : UInt8, t[c]'hlt = x := ⟨_, rfl⟩
        have hwr : IntKind.i64.wrap (x.toNat : Int) = (x.toNat : Int) := by rw [IntKind.wrap_i64]; have := x.toNat_lt; omega
        have HBA : Hid (byteAt t (a + j) = x.toNat) := by rw [← HC.out]; exact byteAt_eq hlt hx
        have HDR : Hid (Below wr.heap.size wr wr.drew) := (Below.refl _ _).drew
        have HCA : Hid (Calls Tryd.prog 46 #[.agg #[.slice D.pa D.pn D.pc, .slice D.ra D.rn D.rc, .slice (some ⟨D.ab, D.aoff, none⟩) D.an D.ac], .int .i64 q, .int .i64 (x.toNat : Int)] wr.drew fun e w' => (∃ r : Int, e = .returned (.int .i64 r) ∧ NextOf D q x.toNat r) ∧ Below wr.drew.heap.size wr.drew w') :=
          H2.out wr.drew q x.toNat (HB0.out.trans ((hB.trans (HDR.out.mono hB.size)).mono HB0.out.size)) hqn
        go_region_with (go_at_call 46; refine HCA.out.mono ?_; rintro e w2 ⟨⟨r, rfl, hr⟩, hb2⟩; have HN : Hid (NextOf D q x.toNat r) := hr; clear hr)
        all_goals
          have hrb := HN.out.bd HD.out hqn
          have hB2 : Below W0.heap.size W0 w2 := hB.trans ((HDR.out.trans (hb2.mono HDR.out.size)).mono hB.size)
          obtain ⟨s0, s1, s2⟩ := HX.out _ hB2
          have hac := HA.out _ (HB0.out.trans (hB2.mono HB0.out.size))
          have HNX : Hid (NextOf D z.q.toNat (byteAt t (a + j)) r) := by
            rw [HQ.out, HBA.out, Int.toNat_natCast]
            exact HN.out
          have HZQ : Hid (0 ≤ z.q) := by rw [HQ.out]; exact Int.natCast_nonneg q
          clear HQ HN hx hwr
          by_cases hr0 : 0 ≤ r
          · obtain ⟨p, rfl⟩ : ∃ p : Nat, r = (p : Int) := ⟨r.toNat, by omega⟩
            have hpa : p < D.an := by rw [HAN.out]; omega
            have ha1 := hac p hpa
            clear hac
            by_cases hA : 0 ≤ D.A p
            · have HST : Hid (LexSt D t a (j + 1) ⟨(p : Int), D.A p, ((a + j + 1 : Nat) : Int)⟩) := HR.out.hit HZQ.out HNX.out hA
              go_wp2_with fail
              go_roundw
              case rel => exact ⟨j + 1, _, by have := HC.out; omega, by rw [HC.out]; rfl, rfl, rfl, by rw [HC.out]; rfl, HST.out, hB2⟩
              case measure => simp [intOf]; omega
            · have HST : Hid (LexSt D t a (j + 1) ⟨(p : Int), z.r, z.t⟩) := HR.out.pass HZQ.out HNX.out (by omega)
              go_wp2_with fail
              go_roundw
              case rel => exact ⟨j + 1, ⟨(p : Int), z.r, z.t⟩, by have := HC.out; omega, by rw [HC.out]; rfl, rfl, rfl, rfl, HST.out, hB2⟩
              case measure => simp [intOf]; omega
          · have HST : Hid (LexSt D t a (j + 1) ⟨r, z.r, z.t⟩) := HR.out.gone HZQ.out HNX.out (by omega)
            clear hac
            go_wp2_with fail
            go_roundw
            case rel => exact ⟨j + 1, ⟨r, z.r, z.t⟩, by have := HC.out; omega, by rw [HC.out]; rfl, rfl, rfl, rfl, HST.out, hB2⟩
            case measure => simp [intOf]; omega
      · have hq1 : ¬ (0 : Int) ≤ z.q := hq0
        have HE : Hid (LexSt D t a (t.size - a) z) := HR.out.stay (by omega) (by have := HC.out; omega)
        go_wp2_with fail
        refine bodyPost_ret (v := .tuple #[.int .i64 z.r, .int .i64 z.t]) (by simp [results, Tryd.results35, go_sem]) rfl ?_
        exact .mk' (LexV.of HE.out) (HB0.out.trans (hB.mono HB0.out.size))
    · have hltz : ¬ (c : Int) < (t.size : Int) := by omega
      have HE : Hid (LexSt D t a (t.size - a) z) := (show j = t.size - a by have := HC.out; omega) ▸ HR.out
      go_wp2_with fail
      refine bodyPost_ret (v := .tuple #[.int .i64 z.r, .int .i64 z.t]) (by simp [results, Tryd.results35, go_sem]) rfl ?_
      exact .mk' (LexV.of HE.out) (HB0.out.trans (hB.mono HB0.out.size))

end Go.Proofs.YtolddecfibdblaaDoor

