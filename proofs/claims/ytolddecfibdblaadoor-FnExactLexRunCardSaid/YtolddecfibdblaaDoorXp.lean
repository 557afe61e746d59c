/- LexRun: the project's side -/
import Derived.Test.YtolddecfibdblaaDoorXo
import Derived.Test.YtolddecfibdblaaDoorXm
namespace Go.Proofs.YtolddecfibdblaaDoor
open Go.RowKit
set_option linter.unusedVariables false
set_option linter.unusedSimpArgs false

set_option maxRecDepth 100000 in
set_option maxHeartbeats 4000000 in
theorem lexFind_any (D : Dx) (t : ByteArray) (c g lx tb : Nat) (Q : Nat → Int) (w : World) (hrow : w.rowIs g 54 (D.rn * 256) (fun j => .int .i64 (Q j))) (hfit : ∀ i, i < D.rn → RowFit D.P (D.R.G i) (fun x => Q (i * 256 + x)) D.pn)
    (hac : Ip w D.ab D.aoff D.an D.A) (hd : DOk D) (hc : c ≤ t.size) (hts : t.size ≤ 200) (h0 : w.cell? ⟨lx, 0, none⟩ = some (.slice (some ⟨g, 0, none⟩) D.rn D.rn)) (h1 : w.cell? ⟨lx, 1, none⟩ = some (.slice (some ⟨D.ab, D.aoff, none⟩) D.an D.ac)) (h2 : w.cell? ⟨tb, 0, none⟩ = some (.string t)) :
    Calls Tryd.prog 39 #[.int .i64 c, .pointer (some ⟨lx, 0, none⟩), .pointer (some ⟨tb, 0, none⟩)] w fun e w' => (∃ r x : Int, e = .returned (.agg #[.int .i64 r, .int .i64 c, .int .i64 x]) ∧ LexV D t c r x) ∧ Below w.heap.size w w' := by
  obtain ⟨W0, hW0⟩ : ∃ W0, W0 = w.alloc (.cells #[.int .i64 0, .int .i64 0, .int .i64 0] 59) := ⟨_, rfl⟩
  have hb0 : Below w.heap.size w W0 := by rw [hW0]; exact (Below.refl _ _).alloc (Nat.le_refl _) _
  have HBX : Hid (BoxT W0 w.heap.size ⟨0, 0, 0⟩) := by rw [hW0]; exact BoxT.new w ⟨0, 0, 0⟩
  have HL : Hid (Calls Tryd.prog 37 #[.agg #[.slice (some ⟨g, 0, none⟩) D.rn D.rn, .slice (some ⟨D.ab, D.aoff, none⟩) D.an D.ac], .string t, .int .i64 c] W0 (LongRes D t c W0)) := longest_any D t c g Q W0 (row_below hrow hb0) hfit (hac.below hb0) hd hc hts
  have HB0 : Hid (Below w.heap.size w W0) := hb0
  have hs0 : w.heap.size < W0.heap.size := by rw [hW0]; simp
  have k0 := (hb0.cell (p := ⟨lx, 0, none⟩) (World.block_lt_of_cell? _ _ h0)).trans h0
  have k1 := (hb0.cell (p := ⟨lx, 1, none⟩) (World.block_lt_of_cell? _ _ h1)).trans h1
  have k2 := (hb0.cell (p := ⟨tb, 0, none⟩) (World.block_lt_of_cell? _ _ h2)).trans h2
  rw [hW0] at k0 k1 k2
  clear hrow hfit hac hd h0 h1 h2
  go_enter Tryd.func39, Tryd.ntmps39
  go_wp2_with fail
  rw [← hW0]
  clear hW0 hb0 k0 k1 k2
  refine HL.out.mono ?_
  rintro e w1 ⟨r, x, rfl, hv, hb1⟩
  obtain ⟨⟨d0, d1, d2⟩, f0, f1, f2⟩ := (HBX.out.below hb1).cells
  have HV : Hid (LexV D t c r x) := hv
  have HB1 : Hid (Below w.heap.size w w1) := HB0.out.trans (hb1.mono HB0.out.size)
  clear hv hb1 HL
  go_wp2_with fail
  refine bodyPost_ret (v := .agg #[.int .i64 r, .int .i64 c, .int .i64 x]) ?_ rfl ⟨⟨r, x, rfl, HV.out⟩, ((HB1.out.setCell (by simp) _).setCell (by simp) _).setCell (by simp) _⟩
  simp [results, Tryd.results39, go_sem, d0, d1, d2]

set_option maxRecDepth 100000 in
set_option maxHeartbeats 4000000 in
theorem implLexRun_any (D : Dx) (t : ByteArray) (w : World) (htz : TabZ w) (hw0 : 0 < w.heap.size) (h : DIn w D) (hm : DLe D 4194304) (ht : t.size ≤ 4611686018427387904) :
    Calls Tryd.prog 17 #[dv D, .string t] w (TokRes (LexRunR D t) w) := by
  obtain ⟨W0, hW0⟩ : ∃ W0, W0 = (w.alloc (.cells #[.slice D.pa D.pn D.pc, .slice D.ra D.rn D.rc, .slice D.aa D.an D.ac] 31)).alloc (.cells #[.string t] 9) := ⟨_, rfl⟩
  have hb0 : Below w.heap.size w W0 := by rw [hW0]; exact ((Below.refl _ _).alloc (Nat.le_refl _) _).alloc (by simp) _
  have HX : Hid (∀ V, Below W0.heap.size W0 V → V.cell? ⟨w.heap.size, 0, none⟩ = some (.slice D.pa D.pn D.pc) ∧ V.cell? ⟨w.heap.size, 1, none⟩ = some (.slice D.ra D.rn D.rc) ∧ V.cell? ⟨w.heap.size, 2, none⟩ = some (.slice D.aa D.an D.ac) ∧ V.cell? ⟨w.heap.size + 1, 0, none⟩ = some (.string t)) := fun V hV => by
    refine ⟨((bcell hV).1 _ _ (by rw [hW0]; simp; omega)).trans ?_, ((bcell hV).1 _ _ (by rw [hW0]; simp; omega)).trans ?_, ((bcell hV).1 _ _ (by rw [hW0]; simp; omega)).trans ?_, ((bcell hV).1 _ _ (by rw [hW0]; simp)).trans ?_⟩ <;> (rw [hW0]; simp [go_sem])
  have H1 : Hid (Calls Tryd.prog 30 #[.agg #[.slice D.pa D.pn D.pc, .slice D.ra D.rn D.rc, .slice D.aa D.an D.ac]] W0 (IsB (DOk D) W0)) := implDfaOk_any D W0 (htz.below hb0) (by have := hb0.size; omega) (h.below hb0) hm
  have H2 : Hid (∀ V, Below w.heap.size w V → DOk D → Calls Tryd.prog 36 #[.agg #[.slice D.pa D.pn D.pc, .slice D.ra D.rn D.rc, .slice D.aa D.an D.ac]] V (LexerRes D V)) := fun V hV hd => lexerOf_any D V (h.below hV) hm hd
  have HI : Hid (∀ V, Below w.heap.size w V → DIn V D) := fun V hV => h.below hV
  have HB0 : Hid (Below w.heap.size w W0) := hb0
  have hs0 : w.heap.size + 1 < W0.heap.size := by rw [hW0]; simp
  rw [dv]
  clear h hm htz hw0
  go_enter Tryd.func17, Tryd.ntmps17
  go_wp2_with fail
  rw [← hW0]
  clear hW0 hb0
  refine H1.out.mono ?_
  rintro e w1 ⟨ok, rfl, hok, hb1⟩
  have HOK : Hid (ok = true ↔ DOk D) := hok
  obtain ⟨p0, p1, p2, p3⟩ := HX.out _ hb1
  have HB1 : Hid (Below w.heap.size w w1) := HB0.out.trans (hb1.mono HB0.out.size)
  have HW1 : Hid (Below W0.heap.size W0 w1) := hb1
  clear hok hb1
  cases ok
  · go_wp2_with fail
    refine bodyPost_ret (v := .tuple #[.slice none 0 0, .int .i64 0]) (by simp [results, Tryd.results17, go_sem]) rfl ?_
    exact .nil (.inr ⟨.inl (fun h => by have := HOK.out.2 h; cases this), rfl, rfl⟩) HB1.out
  have HD : Hid (DOk D) := HOK.out.1 rfl
  by_cases c1 : 200 < t.size
  · have c1z : (200 : Int) < (t.size : Int) := by omega
    go_wp2_with fail
    refine bodyPost_ret (v := .tuple #[.slice none 0 0, .int .i64 0]) (by simp [results, Tryd.results17, go_sem]) rfl ?_
    exact .nil (.inr ⟨.inr c1, rfl, rfl⟩) HB1.out
  have c1z : ¬ (200 : Int) < (t.size : Int) := by omega
  have hl200 : t.size ≤ 200 := by omega
  have H2' := H2.out w1 HB1.out HD.out
  clear c1
  go_wp2_with fail
  refine H2'.mono ?_
  clear H2'
  rintro e w2 ⟨g, Q, rfl, hg, hrow, hfit, hb2⟩
  have HB2 : Hid (Below w.heap.size w w2) := HB1.out.trans (hb2.mono HB1.out.size)
  have HW2 : Hid (Below W0.heap.size W0 w2) := HW1.out.trans (hb2.mono HW1.out.size)
  have hin2 := HI.out w2 HB2.out
  have haa : D.aa = some ⟨D.ab, D.aoff, none⟩ := hin2.ag (by rw [HD.out.2.2.1]; have := HD.out.2.1.1; omega)
  obtain ⟨W3, hW3⟩ : ∃ W3, W3 = w2.alloc (.cells #[.slice (some ⟨g, 0, none⟩) D.rn D.rn, .slice D.aa D.an D.ac] 61) := ⟨_, rfl⟩
  have hb23 : Below w2.heap.size w2 W3 := by rw [hW3]; exact (Below.refl _ _).alloc (Nat.le_refl _) _
  have HB3 : Hid (Below w.heap.size w W3) := HB2.out.trans (hb23.mono HB2.out.size)
  have HW3 : Hid (Below W0.heap.size W0 W3) := HW2.out.trans (hb23.mono HW2.out.size)
  have hs23 : w2.heap.size < W3.heap.size := by rw [hW3]; simp
  have l0 : W3.cell? ⟨w2.heap.size, 0, none⟩ = some (.slice (some ⟨g, 0, none⟩) D.rn D.rn) := by rw [hW3]; simp [go_sem]
  have l1 : W3.cell? ⟨w2.heap.size, 1, none⟩ = some (.slice D.aa D.an D.ac) := by rw [hW3]; simp [go_sem]
  have HFD : Hid (∀ (V : World) (c : Nat), Below W3.heap.size W3 V → c ≤ t.size → Calls Tryd.prog 39 (#[.int .i64 c] ++ #[.pointer (some ⟨w2.heap.size, 0, none⟩), .pointer (some ⟨w.heap.size + 1, 0, none⟩)]) V fun e w' => (∃ r x : Int, e = .returned (.agg #[.int .i64 r, .int .i64 c, .int .i64 x]) ∧ LexV D t c r x) ∧ Below V.heap.size V w') := fun V c hV hc => by
    refine lexFind_any D t c g w2.heap.size (w.heap.size + 1) Q V (row_below (row_below hrow hb23) hV) hfit (HI.out V (HB3.out.trans (hV.mono HB3.out.size))).a HD.out hc hl200 ?_ ?_ (HX.out V (HW3.out.trans (hV.mono HW3.out.size))).2.2.2
    · exact (hV.cell (p := ⟨w2.heap.size, 0, none⟩) hs23).trans l0
    · rw [← haa]; exact (hV.cell (p := ⟨w2.heap.size, 1, none⟩) hs23).trans l1
  have HCUT : Hid (Calls Tryd.prog 38 #[.string t, .func (.func 39) #[] #[.pointer (some ⟨w2.heap.size, 0, none⟩), .pointer (some ⟨w.heap.size + 1, 0, none⟩)]] W3 fun e W' => ∃ (v : Value) (L : List Tk) (c : Nat), e = .returned (.tuple #[v, .int .i64 c]) ∧ CutEnd (LexV D t) t.size L c ∧ W'.ownsRow W3.heap.size 59 3 v L.length (cellsT L) ∧ Below W3.heap.size W3 W') :=
    cut_any 39 _ t (LexV D t) (lexV_finds HD.out t) hl200 W3 (enters_of Tryd.func39 (by kernel_rfl) rfl) HFD.out
  have p4 := (HX.out W3 HW3.out).2.2.2
  rw [hW3] at p4
  have HW : Hid (W3 = w2.alloc (.cells #[.slice (some ⟨g, 0, none⟩) D.rn D.rn, .slice D.aa D.an D.ac] 61)) := hW3
  clear hrow hfit hin2 haa hg hb23 hb2 l0 l1 hW3 p0 p1 p2 p3
  go_wp2_with fail
  rw [← HW.out]
  clear p4 HW
  refine HCUT.out.mono ?_
  rintro e w4 ⟨v, L, c, rfl, hcut, hown, hb4⟩
  have HE : Hid (LexRunR D t L c) := .inl ⟨HD.out, hl200, hcut⟩
  have HO : Hid (w4.ownsRow W3.heap.size 59 3 v L.length (cellsT L)) := hown
  have HB4 : Hid (Below w.heap.size w w4) := HB3.out.trans (hb4.mono HB3.out.size)
  clear hcut hown hb4 HCUT
  go_wp2_with fail
  refine bodyPost_ret (v := .tuple #[v, .int .i64 c]) (by simp [results, Tryd.results17, go_sem]) rfl ?_
  exact ⟨v, L, c, rfl, HE.out, own_downT HO.out HB3.out.size, HB4.out⟩
end Go.Proofs.YtolddecfibdblaaDoor

