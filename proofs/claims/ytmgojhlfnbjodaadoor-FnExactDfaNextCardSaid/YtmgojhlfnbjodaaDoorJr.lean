/- the walks of DfaNext, both sides -/
import Derived.Test.YtmgojhlfnbjodaaDoorJq
namespace Go.Proofs.YtmgojhlfnbjodaaDoor
open Go.RowKit
set_option linter.unusedVariables false
set_option linter.unusedSimpArgs false

theorem ixRow {c : Array Value} {F : Nat → Int} (hg : ∀ i, i < 256 → c[i]? = some (.int .i64 (F i))) (x : Nat) (hx : x < 256) (w : World) :
    (Instr.index 52 (.agg c) (.int .i64 (x : Int))).run Tryd.prog w = .ok (.int .i64 (F x)) w := by
  have h1 : (x : Int) < 256 := by omega
  have h2 : (0 : Int) ≤ (x : Int) := by omega
  have h3 := hg x hx
  simp [Instr.index, run_underlying Tryd.underlying52, asIntOf, h1, h2, hx, go_sem, part, isAgg, run_underlying Tryd.underlying3, Tryd.sizeOf3, h3]

/-- what DfaNext tells -/
def NextR (D : Dx) (s x : Int) (r : Int) : Prop := (DOk D ∧ 0 ≤ s ∧ s < D.rn ∧ NextOf D s.toNat x r) ∨ ((¬ DOk D ∨ s < 0 ∨ (D.rn : Int) ≤ s) ∧ r = -1)
theorem NextR.unique {D : Dx} {s x r r' : Int} (h : NextR D s x r) (h' : NextR D s x r') : r = r' := by
  rcases h with ⟨a, b, c, d⟩ | ⟨a, rfl⟩ <;> rcases h' with ⟨a', b', c', d'⟩ | ⟨a', rfl⟩
  · exact d.unique a d'
  · rcases a' with g | g | g
    · exact absurd a g
    · omega
    · omega
  · rcases a with g | g | g
    · exact absurd a' g
    · omega
    · omega
  · rfl
theorem NextR.congr {D D' : Dx} (e : DEq D D') {s x r : Int} (h : NextR D s x r) : NextR D' s x r := by
  have he := e.2.1.1
  rcases h with ⟨a, b, c, d⟩ | ⟨a, rfl⟩
  · exact .inl ⟨a.congr e, b, by omega, d.congr e (by omega) (a.at (by omega)).1⟩
  · refine .inr ⟨?_, rfl⟩
    rcases a with g | g | g
    · exact .inl (fun h => g (h.congr e.symm))
    · exact .inr (.inl g)
    · exact .inr (.inr (by omega))
theorem NextR.exists (D : Dx) (s x : Int) : ∃ r, NextR D s x r := by
  by_cases h : DOk D ∧ 0 ≤ s ∧ s < D.rn
  · by_cases g : ∃ k, k < D.pn ∧ hasB (D.P.n k) (D.P.L k) (D.P.H k) x = true
    · obtain ⟨k, h1, h2⟩ := g
      exact ⟨_, .inl ⟨h.1, h.2.1, h.2.2, .inl ⟨k, h1, h2, rfl⟩⟩⟩
    · refine ⟨-1, .inl ⟨h.1, h.2.1, h.2.2, .inr ⟨fun k hk => ?_, rfl⟩⟩⟩
      cases e : hasB (D.P.n k) (D.P.L k) (D.P.H k) x
      · rfl
      · exact absurd ⟨k, hk, e⟩ g
  · refine ⟨-1, .inr ⟨?_, rfl⟩⟩
    by_cases g : DOk D
    · by_cases g2 : s < 0
      · exact .inr (.inl g2)
      · refine .inr (.inr ?_)
        by_cases g3 : (D.rn : Int) ≤ s
        · exact g3
        · exact absurd ⟨g, by omega, by omega⟩ h
    · exact .inl g
/-- what is told says r of which P -/
def IsI (P : Int → Prop) (w : World) (e : Ending) (w' : World) : Prop := ∃ r : Int, e = .returned (.int .i64 r) ∧ P r ∧ Below w.heap.size w w'
theorem IsI.mk' {P : Int → Prop} {w w' : World} {r : Int} (h : P r) (hb : Below w.heap.size w w') : IsI P w (.returned (.int .i64 r)) w' := ⟨r, rfl, h, hb⟩

set_option maxRecDepth 100000 in
set_option maxHeartbeats 4000000 in
theorem specDfaNext_any (D : Dx) (s x : Int) (w : World) (h : DIn w D) (hm : DLe D 4194304) :
    Calls Tryd.prog 12 #[dv D, .int .i64 s, .int .i64 x] w (IsI (NextR D s x) w) := by
  obtain ⟨W0, hW0⟩ : ∃ W0, W0 = w.alloc (.cells #[.slice D.pa D.pn D.pc, .slice D.ra D.rn D.rc, .slice D.aa D.an D.ac] 31) := ⟨_, rfl⟩
  have hb0 : Below w.heap.size w W0 := by rw [hW0]; exact (Below.refl _ _).alloc (Nat.le_refl _) _
  have HX : Hid (∀ V, Below W0.heap.size W0 V → V.cell? ⟨w.heap.size, 0, none⟩ = some (.slice D.pa D.pn D.pc) ∧ V.cell? ⟨w.heap.size, 1, none⟩ = some (.slice D.ra D.rn D.rc) ∧ V.cell? ⟨w.heap.size, 2, none⟩ = some (.slice D.aa D.an D.ac)) := fun V hV => by
    refine ⟨((bcell hV).1 _ _ (by rw [hW0]; simp)).trans ?_, ((bcell hV).1 _ _ (by rw [hW0]; simp)).trans ?_, ((bcell hV).1 _ _ (by rw [hW0]; simp)).trans ?_⟩ <;> (rw [hW0]; simp [go_sem])
  have H1 : Hid (Calls Tryd.prog 8 #[.agg #[.slice D.pa D.pn D.pc, .slice D.ra D.rn D.rc, .slice D.aa D.an D.ac]] W0 (IsB (DOk D) W0)) := specDfaOk_any D W0 (h.below hb0) hm
  have H2 : Hid (∀ (V : World) (q : Nat), Below w.heap.size w V → DOk D → q < D.rn → Calls Tryd.prog 31 #[.agg #[.slice D.pa D.pn D.pc, .slice D.ra D.rn D.rc, .slice D.aa D.an D.ac], .int .i64 q, .int .i64 x] V fun e w' => (∃ r : Int, e = .returned (.int .i64 r) ∧ NextOf D q x r) ∧ Below V.heap.size V w') := fun V q hV hd hq => specNext_any D q x V (h.below hV) hm hd hq
  have HB0 : Hid (Below w.heap.size w W0) := hb0
  have hrn4 := hm.r
  rw [dv]
  clear h hm
  go_enter Tryd.func12, Tryd.ntmps12
  go_wp2_with fail
  rw [← hW0]
  clear hW0 hb0
  refine H1.out.mono ?_
  rintro e w1 ⟨ok, rfl, hok, hb1⟩
  have HOK : Hid (ok = true ↔ DOk D) := hok
  obtain ⟨p0, p1, p2⟩ := HX.out _ hb1
  have HB1 : Hid (Below w.heap.size w w1) := HB0.out.trans (hb1.mono HB0.out.size)
  clear hok
  cases ok
  · go_wp2_with fail
    go_ret
    exact .mk' (.inr ⟨.inl (fun h => by have := HOK.out.2 h; cases this), rfl⟩) HB1.out
  by_cases h1 : s < 0
  · go_wp2_with fail
    go_ret
    exact .mk' (.inr ⟨.inr (.inl h1), rfl⟩) HB1.out
  by_cases h2 : (D.rn : Int) ≤ s
  · go_wp2_with fail
    go_ret
    exact .mk' (.inr ⟨.inr (.inr h2), rfl⟩) HB1.out
  obtain ⟨q, rfl⟩ : ∃ q : Nat, s = (q : Int) := ⟨s.toNat, by omega⟩
  have hq : q < D.rn := by omega
  have H2' : Hid (Calls Tryd.prog 31 #[.agg #[.slice D.pa D.pn D.pc, .slice D.ra D.rn D.rc, .slice D.aa D.an D.ac], .int .i64 q, .int .i64 x] w1 fun e w' => (∃ r : Int, e = .returned (.int .i64 r) ∧ NextOf D q x r) ∧ Below w1.heap.size w1 w') := H2.out w1 q HB1.out (HOK.out.1 rfl) hq
  go_wp2_with fail
  refine H2'.out.mono ?_
  rintro e w2 ⟨⟨r, rfl, hr⟩, hb2⟩
  have HR : Hid (NextOf D q x r) := hr
  clear hr
  go_wp2_with fail
  go_ret
  exact .mk' (.inl ⟨HOK.out.1 (by simp), by omega, by omega, by simpa using HR.out⟩) (HB1.out.trans (hb2.mono HB1.out.size))

set_option maxRecDepth 100000 in
set_option maxHeartbeats 4000000 in
theorem implDfaNext_any (D : Dx) (s x : Int) (w : World) (ht : TabZ w) (hw0 : 0 < w.heap.size) (h : DIn w D) (hm : DLe D 4194304) :
    Calls Tryd.prog 13 #[dv D, .int .i64 s, .int .i64 x] w (IsI (NextR D s x) w) := by
  obtain ⟨W0, hW0⟩ : ∃ W0, W0 = w.alloc (.cells #[.slice D.pa D.pn D.pc, .slice D.ra D.rn D.rc, .slice D.aa D.an D.ac] 31) := ⟨_, rfl⟩
  have hb0 : Below w.heap.size w W0 := by rw [hW0]; exact (Below.refl _ _).alloc (Nat.le_refl _) _
  have HX : Hid (∀ V, Below W0.heap.size W0 V → V.cell? ⟨w.heap.size, 0, none⟩ = some (.slice D.pa D.pn D.pc) ∧ V.cell? ⟨w.heap.size, 1, none⟩ = some (.slice D.ra D.rn D.rc) ∧ V.cell? ⟨w.heap.size, 2, none⟩ = some (.slice D.aa D.an D.ac)) := fun V hV => by
    refine ⟨((bcell hV).1 _ _ (by rw [hW0]; simp)).trans ?_, ((bcell hV).1 _ _ (by rw [hW0]; simp)).trans ?_, ((bcell hV).1 _ _ (by rw [hW0]; simp)).trans ?_⟩ <;> (rw [hW0]; simp [go_sem])
  have H1 : Hid (Calls Tryd.prog 10 #[.agg #[.slice D.pa D.pn D.pc, .slice D.ra D.rn D.rc, .slice D.aa D.an D.ac]] W0 (IsB (DOk D) W0)) := implDfaOk_any D W0 (ht.below hb0) (by have := hb0.size; omega) (h.below hb0) hm
  have HI : Hid (∀ V, Below w.heap.size w V → DIn V D) := fun V hV => h.below hV
  have HM : Hid (DLe D 4194304) := hm
  have HB0 : Hid (Below w.heap.size w W0) := hb0
  have hrn4 := hm.r
  have hrg := h.rg
  rw [dv]
  clear h hm
  go_enter Tryd.func13, Tryd.ntmps13
  go_wp2_with fail
  rw [← hW0]
  clear hW0 hb0
  refine H1.out.mono ?_
  rintro e w1 ⟨ok, rfl, hok, hb1⟩
  have HOK : Hid (ok = true ↔ DOk D) := hok
  have HW1 : Hid (Below W0.heap.size W0 w1) := hb1
  obtain ⟨p0, p1, p2⟩ := HX.out _ hb1
  have HB1 : Hid (Below w.heap.size w w1) := HB0.out.trans (hb1.mono HB0.out.size)
  clear hok hb1
  cases ok
  · go_wp2_with fail
    go_ret
    exact .mk' (.inr ⟨.inl (fun h => by have := HOK.out.2 h; cases this), rfl⟩) HB1.out
  by_cases h1 : s < 0
  · go_wp2_with fail
    go_ret
    exact .mk' (.inr ⟨.inr (.inl h1), rfl⟩) HB1.out
  by_cases h2 : (D.rn : Int) ≤ s
  · go_wp2_with fail
    go_ret
    exact .mk' (.inr ⟨.inr (.inr h2), rfl⟩) HB1.out
  obtain ⟨q, rfl⟩ : ∃ q : Nat, s = (q : Int) := ⟨s.toNat, by omega⟩
  have hq : q < D.rn := by omega
  have HD : Hid (DOk D) := HOK.out.1 rfl
  have none_of : ∀ k, k < D.pn → ¬ (0 ≤ x ∧ x ≤ 255) → hasB (D.P.n k) (D.P.L k) (D.P.H k) x = false := fun k hk hx => by
    cases e : hasB (D.P.n k) (D.P.L k) (D.P.H k) x
    · rfl
    · exact absurd (has_byte (HD.out.1.1 k hk).ok e) hx
  by_cases h3 : x < 0
  · have HN : Hid (NextR D q x (-1)) := .inl ⟨HD.out, by omega, by omega, .inr ⟨fun k hk => none_of k hk (by omega), rfl⟩⟩
    clear none_of
    go_wp2_with fail
    go_ret
    exact .mk' HN.out HB1.out
  by_cases h4 : 255 < x
  · have HN : Hid (NextR D q x (-1)) := .inl ⟨HD.out, by omega, by omega, .inr ⟨fun k hk => none_of k hk (by omega), rfl⟩⟩
    clear none_of
    go_wp2_with fail
    go_ret
    exact .mk' HN.out HB1.out
  obtain ⟨y, rfl⟩ : ∃ y : Nat, x = (y : Int) := ⟨x.toNat, by omega⟩
  have hy : y < 256 := by omega
  have hra : D.ra = some ⟨D.rb, D.roff, none⟩ := hrg (by omega)
  have hl := (HD.out.at hq).1
  obtain ⟨c1, g1, t1⟩ := (HI.out _ HB1.out).r q hq
  have hqz : (q : Int) < (D.rn : Int) := by omega
  have HBR : Hid (∀ V, Below w1.heap.size w1 V → Calls Tryd.prog 32 #[.slice D.pa D.pn D.pc, .slice (D.R.a q) (D.R.n q) (D.R.cap q)] V (RowRes D.pn D.P (D.R.G q) V)) := fun V hV => by
    have hin := HI.out V (HB1.out.trans (hV.mono HB1.out.size))
    have hh := byteRow_any D.pa D.pb D.poff D.pc D.pn D.P (D.R.a q) (D.R.b q) (D.R.off q) (D.R.cap q) (D.R.G q) V hin.pg hin.p (by rw [← hl]; exact (hin.r q hq).2.1) (by rw [← hl]; exact (hin.r q hq).2.2) HM.out.p HM.out.pi HD.out.1
    rw [← hl] at hh ⊢
    exact hh
  have HDR : Hid (Below w1.heap.size w1 w1.drew) := (Below.refl _ _).drew
  have HBRD : Hid (Calls Tryd.prog 32 #[.slice D.pa D.pn D.pc, .slice (D.R.a q) (D.R.n q) (D.R.cap q)] w1.drew (RowRes D.pn D.P (D.R.G q) w1.drew)) := HBR.out _ HDR.out
  have HAT : Hid (∀ V, Below w1.drew.heap.size w1.drew V → V.cell? ⟨w.heap.size, 0, none⟩ = some (.slice D.pa D.pn D.pc) ∧ V.cell? ⟨w.heap.size, 1, none⟩ = some (.slice (some ⟨D.rb, D.roff, none⟩) D.rn D.rc) ∧ V.cell? ⟨D.rb, D.roff + q, none⟩ = some (.slice (D.R.a q) (D.R.n q) (D.R.cap q))) := fun V hV => by
    have hVV : Below w1.heap.size w1 V := HDR.out.trans hV
    obtain ⟨x0, x1, _⟩ := HX.out V (HW1.out.trans (hVV.mono HW1.out.size))
    rw [hra] at x1
    exact ⟨x0, x1, (hVV.cell (p := ⟨_, _, none⟩) (World.block_lt_of_cell? _ _ c1)).trans c1⟩
  have hix := @ixRow
  have HIX : Hid (∀ (c : Array Value) (F : Nat → Int), (∀ i, i < 256 → c[i]? = some (.int .i64 (F i))) → ∀ V, (Instr.index 52 (.agg c) (.int .i64 (y : Int))).run Tryd.prog V = .ok (.int .i64 (F y)) V) := fun c F hg V => ixRow hg y hy V
  rw [hra] at p1
  clear none_of hix g1 t1 p2 hra HBR
  have HL : Hid (D.R.n q = D.pn) := hl
  clear hl
  go_wp2_with fail
  go_region_held (fun w' => w'.cell? ⟨w.heap.size, 0, none⟩ = some (.slice D.pa D.pn D.pc) ∧ w'.cell? ⟨w.heap.size, 1, none⟩ = some (.slice (some ⟨D.rb, D.roff, none⟩) D.rn D.rc) ∧ w'.cell? ⟨D.rb, D.roff + q, none⟩ = some (.slice (D.R.a q) (D.R.n q) (D.R.cap q))) (go_keep)
    (first | (go_at_call 32; refine HBRD.out.mono ?_; rintro e w2 ⟨c, F, rfl, hcF, hfit, hb2⟩; have hidx := HIX.out c F hcF.2; have HFIT : Hid (RowFit D.P (D.R.G q) F D.pn) := hfit; clear hfit; clear hcF; obtain ⟨z0, z1, z2⟩ := HAT.out w2 hb2))
  all_goals go_wp2_with fail
  all_goals
    go_ret
    have key : NextR D q y (F y) := by
      obtain ⟨k, hk, hS⟩ := some_part HD.out hy
      exact .inl ⟨HD.out, by omega, by omega, .inl ⟨k, hk, hS, by simpa using HFIT.out k hk y hy hS⟩⟩
    exact .mk' key (HB1.out.trans ((HDR.out.trans (hb2.mono HDR.out.size)).mono HB1.out.size))
end Go.Proofs.YtmgojhlfnbjodaaDoor

