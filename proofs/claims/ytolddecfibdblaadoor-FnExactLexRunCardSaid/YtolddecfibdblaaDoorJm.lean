/- the walk of the model's DfaOk -/
import Derived.Test.YtolddecfibdblaaDoorJh
import Derived.Test.YtolddecfibdblaaDoorJl
namespace Go.Proofs.YtolddecfibdblaaDoor
open Go.RowKit
set_option linter.unusedVariables false
set_option linter.unusedSimpArgs false

/-- row s is as it must be -/
def RowAt (D : Dx) (s : Nat) : Prop := D.R.n s = D.pn ∧ Within (D.R.n s) (D.R.G s) (-1) (D.rn - 1) ∧ (-1 ≤ D.A s ∧ D.A s ≤ 4)
theorem dok_of {D : Dx} (h : PartsGood D.pn D.P) (h1 : 1 ≤ D.rn) (h2 : D.rn ≤ 40) (h3 : D.an = D.rn) (h4 : ∀ s, s < D.rn → RowAt D s) : DOk D :=
  ⟨h, ⟨h1, h2, fun s hs => ⟨(h4 s hs).1, (h4 s hs).2.1⟩⟩, ⟨h3, fun s hs => (h4 s (by omega)).2.2⟩⟩
theorem DOk.at {D : Dx} (h : DOk D) {s : Nat} (hs : s < D.rn) : RowAt D s := ⟨(h.2.1.2.2 s hs).1, (h.2.1.2.2 s hs).2, h.2.2.2 s (by rw [h.2.2.1]; exact hs)⟩

set_option maxRecDepth 100000 in
set_option maxHeartbeats 4000000 in
theorem specDfaOk_any (D : Dx) (w : World) (h : DIn w D) (hm : DLe D 4194304) :
    Calls Tryd.prog 25 #[dv D] w (IsB (DOk D) w) := by
  have hb0 : Below w.heap.size w (w.alloc (.cells #[.slice D.pa D.pn D.pc, .slice D.ra D.rn D.rc, .slice D.aa D.an D.ac] 31)) := (Below.refl _ _).alloc (Nat.le_refl _) _
  have H1 : Hid (Calls Tryd.prog 45 #[.slice D.pa D.pn D.pc] (w.alloc (.cells #[.slice D.pa D.pn D.pc, .slice D.ra D.rn D.rc, .slice D.aa D.an D.ac] 31)) (IsB (PartsGood D.pn D.P) (w.alloc (.cells #[.slice D.pa D.pn D.pc, .slice D.ra D.rn D.rc, .slice D.aa D.an D.ac] 31)))) :=
    specParts_any _ _ _ _ _ _ _ h.pg (h.p.below hb0) hm.p hm.pi
  have HL : Hid (∀ V, Below w.heap.size w V → IS V D.rb D.roff D.rn D.R ∧ Ip V D.ab D.aoff D.an D.A) := fun V hV => ⟨h.r.below hV, h.a.below hV⟩
  have hrg := h.rg
  have hag := h.ag
  have hpn4 := hm.p
  have hrn4 := hm.r
  have han4 := hm.a
  have hri := hm.ri
  rw [dv]
  clear h hm
  go_enter Tryd.func25, Tryd.ntmps25
  go_wp2_with fail
  refine H1.out.mono ?_
  rintro e w1 ⟨ok1, rfl, hok1, hb1⟩
  have HK1 : Hid (ok1 = true ↔ PartsGood D.pn D.P) := hok1
  obtain ⟨hc1, _⟩ := bcell hb1
  have p0 : w1.cell? ⟨w.heap.size, 0, none⟩ = some (.slice D.pa D.pn D.pc) := by rw [hc1 _ _ (by simp <;> omega)]; simp [go_sem]
  have p1 : w1.cell? ⟨w.heap.size, 1, none⟩ = some (.slice D.ra D.rn D.rc) := by rw [hc1 _ _ (by simp <;> omega)]; simp [go_sem]
  have p2 : w1.cell? ⟨w.heap.size, 2, none⟩ = some (.slice D.aa D.an D.ac) := by rw [hc1 _ _ (by simp <;> omega)]; simp [go_sem]
  have hB1 := hb0.trans (hb1.mono hb0.size)
  have hz1 : w.heap.size + 1 ≤ w1.heap.size := by have := hb1.size; simp at this; omega
  clear hc1 hok1 hb1 hb0 H1
  cases ok1
  · go_wp2_with fail
    go_ret
    exact .no (fun h => by have := HK1.out.2 h.1; cases this) hB1
  by_cases e1 : D.rn < 1
  · have e1y : (D.rn : Int) < 1 := by omega
    go_wp2_with fail
    go_ret
    exact .no (fun h => by have := h.2.1.1; omega) hB1
  have e1y : ¬ (D.rn : Int) < 1 := by omega
  by_cases e2 : 40 < D.rn
  · have e2y : (40 : Int) < (D.rn : Int) := by omega
    go_wp2_with fail
    go_ret
    exact .no (fun h => by have := h.2.1.2.1; omega) hB1
  have e2y : ¬ (40 : Int) < (D.rn : Int) := by omega
  by_cases e3 : D.an = D.rn
  case neg =>
    have e3y : ((D.an : Int) != (D.rn : Int)) = true := by simp; omega
    go_wp2_with fail
    go_ret
    exact .no (fun h => e3 h.2.2.1) hB1
  have e3y : ((D.an : Int) != (D.rn : Int)) = false := by simp; omega
  have HE : Hid (PartsGood D.pn D.P ∧ 1 ≤ D.rn ∧ D.rn ≤ 40 ∧ D.an = D.rn) := ⟨HK1.out.1 rfl, by omega, by omega, e3⟩
  have HP : Hid (∀ V, Below w1.heap.size w1 V → V.cell? ⟨w.heap.size, 0, none⟩ = some (.slice D.pa D.pn D.pc) ∧ V.cell? ⟨w.heap.size, 1, none⟩ = some (.slice D.ra D.rn D.rc) ∧ V.cell? ⟨w.heap.size, 2, none⟩ = some (.slice D.aa D.an D.ac)) := fun V hV =>
    ⟨((bcell hV).1 _ _ (by omega)).trans p0, ((bcell hV).1 _ _ (by omega)).trans p1, ((bcell hV).1 _ _ (by omega)).trans p2⟩
  have HB1 : Hid (Below w.heap.size w w1) := hB1
  clear hB1 e3
  go_wp2_with fail
  clear p0 p1 p2
  go_loopw [3] (fun i wr => ∃ s : Nat, s ≤ D.rn ∧ i = .int .i64 s ∧ Hid (∀ t, t < s → RowAt D t) ∧ Below w1.heap.size w1 wr) (fun i _ => D.rn - (intOf i).toNat)
  case atStart => exact ⟨0, Nat.zero_le _, rfl, fun j hj => absurd hj (Nat.not_lt_zero _), Below.refl _ _⟩
  case round =>
    obtain ⟨s, hs, rfl, HA, hB⟩ := hrel
    obtain ⟨p0, p1, p2⟩ := HP.out _ hB
    by_cases hlt : s < D.rn
    · have hra : D.ra = some ⟨D.rb, D.roff, none⟩ := hrg (by omega)
      have haa : D.aa = some ⟨D.ab, D.aoff, none⟩ := hag (by rw [HE.out.2.2.2]; omega)
      rw [hra] at p1
      rw [haa] at p2
      have hltz : (s : Int) < (D.rn : Int) := by omega
      have hltn : s < D.an := by rw [HE.out.2.2.2]; exact hlt
      have hltnz : (s : Int) < (D.an : Int) := by omega
      have hBw : Below w.heap.size w wr := HB1.out.trans (hB.mono HB1.out.size)
      obtain ⟨t1, t2⟩ := HL.out _ hBw
      obtain ⟨c1, g1, s1⟩ := t1 s hlt
      have c2 := t2 s hltn
      have HW1 : Hid (∀ V, Below w.heap.size w V → Below w.heap.size w V) := fun _ h => h
      clear t1 t2 hra haa
      by_cases hl : D.R.n s = D.pn
      case neg =>
        have hlz : ((D.R.n s : Int) != (D.pn : Int)) = true := by simp; omega
        have HNO : Hid (¬ DOk D) := fun h => hl (h.at hlt).1
        clear hl g1 s1
        go_wp2_with fail
        go_quiet (fail)
        go_wp2_with fail
        go_ret
        exact .no HNO.out (below_drewN hBw _)
      have hlz : ((D.R.n s : Int) != (D.pn : Int)) = false := by simp; omega
      by_cases ha1 : D.A s < -1
      · have ha1z : decide (D.A s < -1) = true := by simp [ha1]
        have HNO : Hid (¬ DOk D) := fun h => by have := (h.at hlt).2.2.1; omega
        clear hl g1 s1 ha1
        go_wp2_with fail
        go_quiet (fail)
        go_wp2_with fail
        go_ret
        exact .no HNO.out (below_drewN hBw _)
      have ha1z : decide (D.A s < -1) = false := by simp; omega
      by_cases ha2 : 5 ≤ D.A s
      · have ha2z : decide (5 ≤ D.A s) = true := by simp [ha2]
        have HNO : Hid (¬ DOk D) := fun h => by have := (h.at hlt).2.2.2; omega
        clear hl g1 s1 ha1 ha2
        go_wp2_with fail
        go_quiet (fail)
        go_wp2_with fail
        go_ret
        exact .no HNO.out (below_drewN hBw _)
      have ha2z : decide (5 ≤ D.A s) = false := by simp; omega
      have HRA : Hid (D.R.n s = D.pn ∧ -1 ≤ D.A s ∧ D.A s ≤ 4) := ⟨hl, by omega, by omega⟩
      have HBR : Hid (Below w1.heap.size w1 wr) := hB
      have HSP : Hid (∀ V, Below wr.heap.size wr V → V.cell? ⟨D.rb, D.roff + s, none⟩ = some (.slice (D.R.a s) (D.R.n s) (D.R.cap s)) ∧ Ip V (D.R.b s) (D.R.off s) (D.R.n s) (D.R.G s)) := fun V hV =>
        ⟨(hV.cell (p := ⟨_, _, none⟩) (World.block_lt_of_cell? _ _ c1)).trans c1, s1.below hV⟩
      have hrs4 := hri s hlt
      clear hl s1 ha1 ha2 hB hBw
      go_wp2_with fail
      go_quiet (fail)
      go_wp2_with fail
      clear p0 p1 p2 c1 c2
      have HBQ : Hid (Below wr.heap.size wr (wr.drewN nq)) := below_drewN (Below.refl _ _) _
      go_loopw [4] (fun i wv => ∃ j : Nat, j ≤ D.R.n s ∧ i = .int .i64 j ∧ Hid (∀ t, t < j → -1 ≤ D.R.G s t ∧ D.R.G s t ≤ (D.rn : Int) - 1) ∧ Hid (Below wr.heap.size wr wv)) (fun i _ => D.R.n s - (intOf i).toNat)
      case atStart => exact ⟨0, Nat.zero_le _, rfl, fun j hj => absurd hj (Nat.not_lt_zero _), HBQ.out⟩
      case round =>
        obtain ⟨j, hj, rfl, HJ, hBv⟩ := hrel
        obtain ⟨p0, p1, p2⟩ := HP.out _ (HBR.out.trans (hBv.out.mono HBR.out.size))
        obtain ⟨c1, ip1⟩ := HSP.out _ hBv.out
        have hra : D.ra = some ⟨D.rb, D.roff, none⟩ := hrg (by omega)
        rw [hra] at p1
        clear hra p0 p2
        by_cases hjl : j < D.R.n s
        · have hga : D.R.a s = some ⟨D.R.b s, D.R.off s, none⟩ := g1 (by omega)
          have hjz : (j : Int) < (D.R.n s : Int) := by omega
          have c3 := ip1 j hjl
          rw [hga] at c1
          clear hga ip1
          by_cases b1 : D.R.G s j < -1
          · have b1z : decide (D.R.G s j < -1) = true := by simp [b1]
            have HNO : Hid (¬ DOk D) := fun h => by have := ((h.at hlt).2.1 j hjl).1; omega
            clear b1
            go_wp2_with fail
            go_quiet (fail)
            go_wp2_with fail
            go_ret
            exact .no HNO.out (HB1.out.trans ((HBR.out.trans ((below_drewN hBv.out _).mono HBR.out.size)).mono HB1.out.size))
          have b1z : decide (D.R.G s j < -1) = false := by simp; omega
          by_cases b2 : (D.rn : Int) ≤ D.R.G s j
          · have b2z : decide ((D.rn : Int) ≤ D.R.G s j) = true := by simp [b2]
            have HNO : Hid (¬ DOk D) := fun h => by have := ((h.at hlt).2.1 j hjl).2; omega
            clear b1 b2
            go_wp2_with fail
            go_quiet (fail)
            go_wp2_with fail
            go_ret
            exact .no HNO.out (HB1.out.trans ((HBR.out.trans ((below_drewN hBv.out _).mono HBR.out.size)).mono HB1.out.size))
          have b2z : decide ((D.rn : Int) ≤ D.R.G s j) = false := by simp; omega
          have HJJ : Hid (-1 ≤ D.R.G s j ∧ D.R.G s j ≤ (D.rn : Int) - 1) := ⟨by omega, by omega⟩
          clear b1 b2
          go_wp2_with fail
          go_quiet (fail)
          go_wp2_with fail
          go_roundw
          case rel => exact ⟨j + 1, by omega, by go_num, fun t ht => (by by_cases ej : t = j; exact ej ▸ HJJ.out; exact HJ.out t (by omega)), below_drewN hBv.out _⟩
          case measure => simp [intOf]; omega
        · have hjz : ¬ (j : Int) < (D.R.n s : Int) := by omega
          have HRW : Hid (RowAt D s) := ⟨HRA.out.1, fun t ht => HJ.out t (by omega), HRA.out.2⟩
          have HBN : Hid (Below w1.heap.size w1 wr) := HBR.out.trans (hBv.out.mono HBR.out.size)
          clear ip1
          go_wp2_with fail
          go_roundw
          case rel => exact ⟨s + 1, by omega, by go_num, fun t ht => (by by_cases ej : t = s; exact ej ▸ HRW.out; exact HA.out t (by omega)), HBN.out⟩
          case measure => simp [intOf]; omega
    · have hltz : ¬ (s : Int) < (D.rn : Int) := by omega
      go_wp2_with fail
      go_ret
      exact .yes (dok_of HE.out.1 HE.out.2.1 HE.out.2.2.1 HE.out.2.2.2 (fun t ht => HA.out t (by omega))) (HB1.out.trans (hB.mono HB1.out.size))
end Go.Proofs.YtolddecfibdblaaDoor

