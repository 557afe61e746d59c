/- LexAt: the project's side: the longest token at a place -/
import Derived.Test.YtolddecfibdblaaDoorXi
namespace Go.Proofs.YtolddecfibdblaaDoor
open Go.RowKit
set_option linter.unusedVariables false
set_option linter.unusedSimpArgs false

/-- a token, in a box -/
def BoxT (w : World) (g : Nat) (x : Tk) : Prop := w.rowIs g 59 3 (tkFl (fun _ => x))
theorem BoxT.cells {w : World} {g : Nat} {x : Tk} (h : BoxT w g x) : (w.cell? ⟨g, 0, none⟩ = some (.int .i64 x.r) ∧ w.cell? ⟨g, 1, none⟩ = some (.int .i64 x.f) ∧ w.cell? ⟨g, 2, none⟩ = some (.int .i64 x.t)) ∧ w.frozen? ⟨g, 0, none⟩ = false ∧ w.frozen? ⟨g, 1, none⟩ = false ∧ w.frozen? ⟨g, 2, none⟩ = false := by
  have h0 := h.cell (i := 0) (by omega)
  have h1 := h.cell (i := 1) (by omega)
  have h2 := h.cell (i := 2) (by omega)
  exact ⟨⟨h0, h1, h2⟩, h.frozen 0, h.frozen 1, h.frozen 2⟩
theorem BoxT.new (w : World) (x : Tk) : BoxT (w.alloc (.cells #[.int .i64 x.r, .int .i64 x.f, .int .i64 x.t] 59)) w.heap.size x := by
  have h := World.rowIs_alloc w #[.int .i64 x.r, .int .i64 x.f, .int .i64 x.t] 59 (tkFl (fun _ => x)) (fun i hi => by
    have : i = 0 ∨ i = 1 ∨ i = 2 := by simp at hi; omega
    rcases this with rfl | rfl | rfl <;> rfl)
  exact h
theorem BoxT.below {w w' : World} {g : Nat} {x : Tk} (h : BoxT w g x) (hb : Below w.heap.size w w') : BoxT w' g x := row_below h hb
theorem BoxT.set {w : World} {g : Nat} {x : Tk} (h : BoxT w g x) (y : Tk) : BoxT (((w.setCell ⟨g, 0, none⟩ (.int .i64 y.r)).setCell ⟨g, 1, none⟩ (.int .i64 y.f)).setCell ⟨g, 2, none⟩ (.int .i64 y.t)) g y := by
  refine (((World.rowIs.set h 0 _).set 1 _).set 2 _).congr (fun j hj => ?_)
  have : j = 0 ∨ j = 1 ∨ j = 2 := by omega
  rcases this with rfl | rfl | rfl <;> rfl

/-- what longest gives -/
def LongRes (D : Dx) (t : ByteArray) (a : Nat) (w : World) (e : Ending) (w' : World) : Prop := ∃ r x : Int, e = .returned (.agg #[.int .i64 r, .int .i64 a, .int .i64 x]) ∧ LexV D t a r x ∧ Below w.heap.size w w'

set_option maxRecDepth 100000 in
set_option maxHeartbeats 4000000 in
theorem longest_any (D : Dx) (t : ByteArray) (a g : Nat) (Q : Nat → Int) (w : World) (hrow : w.rowIs g 54 (D.rn * 256) (fun j => .int .i64 (Q j))) (hfit : ∀ i, i < D.rn → RowFit D.P (D.R.G i) (fun x => Q (i * 256 + x)) D.pn)
    (hac : Ip w D.ab D.aoff D.an D.A) (hd : DOk D) (ha : a ≤ t.size) (hts : t.size ≤ 200) :
    Calls Tryd.prog 37 #[.agg #[.slice (some ⟨g, 0, none⟩) D.rn D.rn, .slice (some ⟨D.ab, D.aoff, none⟩) D.an D.ac], .string t, .int .i64 a] w (LongRes D t a w) := by
  obtain ⟨W0, hW0⟩ : ∃ W0, W0 = (w.alloc (.cells #[.slice (some ⟨g, 0, none⟩) D.rn D.rn, .slice (some ⟨D.ab, D.aoff, none⟩) D.an D.ac] 61)).alloc (.cells #[.int .i64 0, .int .i64 0, .int .i64 0] 59) := ⟨_, rfl⟩
  have hb0 : Below w.heap.size w W0 := by rw [hW0]; exact ((Below.refl _ _).alloc (Nat.le_refl _) _).alloc (by simp) _
  have HX : Hid (∀ V, Below W0.heap.size W0 V → (V.cell? ⟨w.heap.size, 0, none⟩ = some (.slice (some ⟨g, 0, none⟩) D.rn D.rn) ∧ V.cell? ⟨w.heap.size, 1, none⟩ = some (.slice (some ⟨D.ab, D.aoff, none⟩) D.an D.ac)) ∧ BoxT V (w.heap.size + 1) ⟨0, 0, 0⟩) := fun V hV => by
    refine ⟨⟨((bcell hV).1 _ _ (by rw [hW0]; simp; omega)).trans ?_, ((bcell hV).1 _ _ (by rw [hW0]; simp; omega)).trans ?_⟩, BoxT.below ?_ hV⟩
    · rw [hW0]; simp [go_sem]
    · rw [hW0]; simp [go_sem]
    · rw [hW0]
      have := BoxT.new (w.alloc (.cells #[.slice (some ⟨g, 0, none⟩) D.rn D.rn, .slice (some ⟨D.ab, D.aoff, none⟩) D.an D.ac] 61)) ⟨0, 0, 0⟩
      rwa [World.size_alloc] at this
  have HB0 : Hid (Below w.heap.size w W0) := hb0
  have HRW : Hid (∀ V, Below w.heap.size w V → V.rowIs g 54 (D.rn * 256) (fun j => .int .i64 (Q j))) := fun V hV => row_below hrow hV
  have HAC : Hid (∀ V, Below w.heap.size w V → Ip V D.ab D.aoff D.an D.A) := fun V hV => hac.below hV
  have HFT : Hid (∀ i, i < D.rn → RowFit D.P (D.R.G i) (fun x => Q (i * 256 + x)) D.pn) := hfit
  have HD : Hid (DOk D) := hd
  have HAN : Hid (D.an = D.rn) := hd.2.2.1
  have hrn2 : D.rn ≤ 40 := hd.2.1.2.1
  have hw1 : w.heap.size + 1 < W0.heap.size := by rw [hW0]; simp
  clear hrow hac hfit hd
  go_enter Tryd.func37, Tryd.ntmps37
  go_wp2_with fail
  rw [← hW0]
  clear hW0 hb0
  refine (noToken_any (a : Int) W0).mono ?_
  rintro e w1 ⟨rfl, hb1⟩
  have HB1 : Hid (Below W0.heap.size W0 w1) := hb1
  have hs1 : W0.heap.size ≤ w1.heap.size := hb1.size
  have HN1 : Hid (BoxT (w1.alloc (.cells #[.int .i64 (-1), .int .i64 a, .int .i64 a] 59)) w1.heap.size ⟨-1, a, a⟩) := BoxT.new w1 ⟨-1, a, a⟩
  clear hb1
  go_wp2_with fail
  have hlb : W0.heap.size ≤ w1.heap.size := hs1
  go_loopw [8, 9] (fun q i wr => ∃ (j : Nat) (z : Ls), a + j ≤ t.size ∧ i = .int .i64 (a + j : Nat) ∧ q = .int .i64 z.q ∧ 0 ≤ z.q ∧ Hid (LexSt D t a j z) ∧ Hid (BoxT wr w1.heap.size ⟨z.r, a, z.t⟩) ∧ Hid (Below w1.heap.size w1 wr)) (fun _ i _ => t.size - (intOf i).toNat)
  case atStart => exact ⟨0, ⟨0, -1, a⟩, ha, rfl, rfl, Int.le_refl _, rfl, HN1.out, (Below.refl _ _).alloc (Nat.le_refl _) _⟩
  case round =>
    obtain ⟨j, z, hj, rfl, rfl, hq0, HR, HBX, HB⟩ := hrel
    obtain ⟨⟨z0, z1⟩, zr, zt, _, _⟩ := HR.out.bd HD.out
    have HWB : Hid (Below W0.heap.size W0 wr) := HB1.out.trans (HB.out.mono HB1.out.size)
    obtain ⟨⟨p0, p1⟩, HB2⟩ := HX.out wr HWB.out
    have HBR : Hid (BoxT wr (w.heap.size + 1) ⟨0, 0, 0⟩) := HB2
    obtain ⟨⟨d0, d1, d2⟩, f0, f1, f2⟩ := HBX.out.cells
    obtain ⟨⟨r0, r1, r2⟩, k0, k1, k2⟩ := HBR.out.cells
    obtain ⟨c, hc⟩ : ∃ c : Nat, c = a + j := ⟨_, rfl⟩
    rw [← hc] at hj ⊢
    have HC : Hid (c = a + j) := hc
    clear hc HB2
    by_cases hlt : c < t.size
    · have hltz : (c : Int) < (t.size : Int) := by omega
      obtain ⟨q, hq⟩ : ∃ q : Nat, z.q = (q : Int) := ⟨z.q.toNat, by omega⟩
      rw [hq] at hq0 z0 z1 ⊢
      have HQ : Hid (z.q = (q : Int)) := hq
      clear hq
      have hqn : q < D.rn := by omega
      obtain ⟨x, hx⟩ : ∃ x : UInt8, t[c]'hlt = x := ⟨_, rfl⟩
      have hx256 : x.toNat < 256 := x.toNat_lt
      have hxz : (x.toNat : Int) < 256 := by omega
      have HBA : Hid (byteAt t (a + j) = x.toNat) := by rw [← HC.out]; exact byteAt_eq hlt hx
      have c3 := (HRW.out wr (HB0.out.trans (HWB.out.mono HB0.out.size))).cell (i := q * 256 + x.toNat) (by omega)
      have HNX : Hid (NextOf D z.q.toNat (byteAt t (a + j)) (Q (q * 256 + x.toNat))) := by
        rw [HQ.out, HBA.out, Int.toNat_natCast]
        obtain ⟨k', hk', hS⟩ := some_part HD.out hx256
        exact .inl ⟨k', hk', hS, HFT.out q hqn k' hk' x.toNat hx256 hS⟩
      have HZQ : Hid (0 ≤ z.q) := by rw [HQ.out]; exact Int.natCast_nonneg q
      have hbd := HNX.out.bd HD.out (by rw [HQ.out, Int.toNat_natCast]; exact hqn)
      have hac := HAC.out wr (HB0.out.trans (HWB.out.mono HB0.out.size))
      clear HQ
      go_wp2_with fail
      go_quiet (fail)
      obtain ⟨r, hr⟩ : ∃ r : Int, r = Q (q * 256 + x.toNat) := ⟨_, rfl⟩
      rw [← hr] at HNX hbd ⊢
      clear c3 hr
      by_cases hr1 : r = -1
      · have hrz : (r == -1) = true := by simp [hr1]
        have HE : Hid (LexSt D t a (t.size - a) ⟨r, z.r, z.t⟩) := (HR.out.gone HZQ.out HNX.out (by omega)).stay (by show r < 0; omega) (by have := HC.out; omega)
        clear hr1 hac
        go_wp2_with fail
        refine bodyPost_ret (v := .agg #[.int .i64 z.r, .int .i64 a, .int .i64 z.t]) ?_ rfl ⟨z.r, z.t, rfl, ⟨r, HE.out⟩, (((below_drewN (HB0.out.trans (HWB.out.mono HB0.out.size)) nq).setCell (by simp) _).setCell (by simp) _).setCell (by simp) _⟩
        simp [results, Tryd.results37, go_sem, r0, r1, r2]
      · have hrz : (r == -1) = false := by simp [hr1]
        obtain ⟨p, rfl⟩ : ∃ p : Nat, r = (p : Int) := ⟨r.toNat, by omega⟩
        have hpn : p < D.rn := by omega
        have hpa : p < D.an := by rw [HAN.out]; omega
        have ha1 := hac p hpa
        have hA4 := (HD.out.at hpn).2.2
        clear hac hr1
        by_cases hA : D.A p = -1
        · have hAz : (D.A p != -1) = false := by simp [hA]
          have HST : Hid (LexSt D t a (j + 1) ⟨(p : Int), z.r, z.t⟩) := HR.out.pass HZQ.out HNX.out (by omega)
          clear hA
          go_wp2_with fail
          go_roundw
          case rel => exact ⟨j + 1, ⟨(p : Int), z.r, z.t⟩, by have := HC.out; omega, by rw [HC.out]; rfl, rfl, Int.natCast_nonneg p, HST.out, HBX.out.below (below_drewN (Below.refl _ _) _), below_drewN HB.out _⟩
          case measure => simp [intOf]; omega
        · have hAz : (D.A p != -1) = true := by simp [hA]
          have HST : Hid (LexSt D t a (j + 1) ⟨(p : Int), D.A p, ((a + j + 1 : Nat) : Int)⟩) := HR.out.hit HZQ.out HNX.out (by omega)
          clear hA
          go_wp2_with fail
          go_roundw
          case rel =>
            have hbs := (HBX.out.below (below_drewN (Below.refl wr.heap.size wr) nq)).set ⟨D.A p, (a : Int), (c : Int) + 1⟩
            exact ⟨j + 1, ⟨(p : Int), D.A p, ((a + j + 1 : Nat) : Int)⟩, by have := HC.out; omega, by rw [HC.out]; rfl, rfl, Int.natCast_nonneg p, HST.out, by
              have e : ((a + j + 1 : Nat) : Int) = (c : Int) + 1 := by rw [HC.out]; rfl
              rw [e]; exact hbs, ((((below_drewN HB.out nq).setCell (by simp) _).setCell (by simp) _).setCell (by simp) _)⟩
          case measure => simp [intOf]; omega
    · have hltz : ¬ (c : Int) < (t.size : Int) := by omega
      have HE : Hid (LexSt D t a (t.size - a) z) := (show j = t.size - a by have := HC.out; omega) ▸ HR.out
      go_wp2_with fail
      refine bodyPost_ret (v := .agg #[.int .i64 z.r, .int .i64 a, .int .i64 z.t]) ?_ rfl ⟨z.r, z.t, rfl, LexV.of HE.out, (((HB0.out.trans (HWB.out.mono HB0.out.size)).setCell (by simp) _).setCell (by simp) _).setCell (by simp) _⟩
      simp [results, Tryd.results37, go_sem, r0, r1, r2]

end Go.Proofs.YtolddecfibdblaaDoor

