/- the walk of impl.RexText -/
import Derived.Test.YtjaaokclpclnaaaDoorTv
namespace Go.Proofs.YtjaaokclpclnaaaDoor
open Go.RowKit Go.Shelf
set_option linter.unusedVariables false
set_option linter.unusedSimpArgs false
attribute [local go_sem] Oper.semAt_some

/-- what holds between the rounds -/
def RI (Bw z : Nat) (W0 : World) (pre : List Part) (W : World) : Prop := KeepsO (XW Bw (z + 2)) W0 W ∧ ∃ g n c, Wd Bw (z + 2) (wordsL pre) W g n c
theorem wordsL_len (xs : List Part) : (wordsL xs).length ≤ 2 * xs.length := by
  induction xs with
  | nil => simp [wordsL]
  | cons x xs ih =>
    have h1 : (partW x).length ≤ 2 := by simp only [partW]; split <;> simp
    simp only [wordsL, List.flatMap_cons, List.length_append, List.length_cons] at ih ⊢
    omega
theorem cell_box {W : World} {b : Nat} {cs : Array Value} {t : TypeId} {i : Nat} {v : Value} (h : W.heap[b]? = some (.cells cs t (0, 0))) (hv : cs[i]? = some v) : W.cell? ⟨b, i, none⟩ = some v := by
  simp [World.cell?, h, hv]

set_option maxRecDepth 100000 in
set_option maxHeartbeats 4000000 in
theorem implRexText_any (S : Sh) (M : Mx) (w : World) (t : TypeId) (ea : Addr) (hE : Err w t ea) (hP : Pow w) (hT : In AnyB w S M) (hcnt : cnt S ≤ 1048576) :
    Calls Tryd.prog 24 #[vx S M] w fun e w' => e = .returned (.string ⟨(textR S).toArray⟩) ∧ Below w.heap.size w w' := by
  obtain ⟨a, n, c, a', m, c', es, ek⟩ := hT.slices
  have hB0 : Below w.heap.size w (w.alloc (.cells #[.int .i64 S.kind, .slice a n c, .slice a' m c'] 31)) := (Below.refl _ _).alloc (Nat.le_refl _) _
  have H1 : Hid (Calls Tryd.prog 11 #[vx S M] (w.alloc (.cells #[.int .i64 S.kind, .slice a n c, .slice a' m c'] 31)) fun e w' => e = .returned (.bool (okR S)) ∧ Below (w.alloc (.cells #[.int .i64 S.kind, .slice a n c, .slice a' m c'] 31)).heap.size (w.alloc (.cells #[.int .i64 S.kind, .slice a n c, .slice a' m c'] 31)) w') :=
    implRexOk_any S M _ t ea (hE.below hB0) (hT.below hB0) hcnt
  have hv : vx S M = .agg #[.int .i64 S.kind, .slice a n c, .slice a' m c'] := by rw [vx, es, ek]
  have HK0 : Hid (M.sv = .slice a n c ∧ M.kv = .slice a' m c') := ⟨es, ek⟩
  have HT : Hid (In (· < w.heap.size) w S M) := hT.lt
  have HP : Hid (Pow w) := hP
  rw [hv] at H1 ⊢
  clear hv es ek hT hE hP
  by_cases hf : okR S = true
  · rw [hf] at H1
    have HR : Hid (textR S = textS S) := by simp [Hid, textR, hf]
    have HF : Hid (okR S = true) := hf
    clear hf
    refine calls_of_wpAt Tryd.func24 rfl ?_
    simp only [Tryd.ntmps24, List.size_toArray, List.length_cons, List.length_nil, Nat.reduceAdd, Nat.reduceSub, Array.replicate_succ, Array.replicate_zero, List.push_toArray, List.append_toArray, List.nil_append, List.cons_append]
    refine wpAt_seq (wpAt_of_wp ?_)
    go_wp2_with fail
    refine wpAt_seq (wpAt_of_wp ?_)
    go_wp2_with fail
    refine H1.out.mono ?_
    rintro e w1 ⟨rfl, hb1⟩
    have hB1 := hB0.trans (hb1.mono hB0.size)
    have r0 : w1.cell? ⟨w.heap.size, 0, none⟩ = some (.int .i64 S.kind) := (hb1.cell (p := ⟨w.heap.size, 0, none⟩) (by simp)).trans (by simp [go_sem])
    have r1 : w1.cell? ⟨w.heap.size, 1, none⟩ = some (.slice a n c) := (hb1.cell (p := ⟨w.heap.size, 1, none⟩) (by simp)).trans (by simp [go_sem])
    have r2 : w1.cell? ⟨w.heap.size, 2, none⟩ = some (.slice a' m c') := (hb1.cell (p := ⟨w.heap.size, 2, none⟩) (by simp)).trans (by simp [go_sem])
    have hlt1 : w.heap.size < w1.heap.size := World.block_lt_of_cell? _ _ r0
    clear H1
    go_wp2_with fail
    refine wpAt_seq (wpAt_of_wp ?_)
    go_wp2_with fail
    refine wpAt_seq (wpAt_seq (wpAt_of_wp ?_))
    have q0 : (w1.alloc (.cells #[.slice none 0 0] 56)).cell? ⟨w.heap.size, 0, none⟩ = some (.int .i64 S.kind) := (((Below.refl _ _).alloc (Nat.le_refl _) _).cell (p := ⟨w.heap.size, 0, none⟩) hlt1).trans r0
    have q1 : (w1.alloc (.cells #[.slice none 0 0] 56)).cell? ⟨w.heap.size, 1, none⟩ = some (.slice a n c) := (((Below.refl _ _).alloc (Nat.le_refl _) _).cell (p := ⟨w.heap.size, 1, none⟩) hlt1).trans r1
    have q2 : (w1.alloc (.cells #[.slice none 0 0] 56)).cell? ⟨w.heap.size, 2, none⟩ = some (.slice a' m c') := (((Below.refl _ _).alloc (Nat.le_refl _) _).cell (p := ⟨w.heap.size, 2, none⟩) hlt1).trans r2
    go_wp2_with fail
    refine (partsOf_any _ S.kind a n c a' m c' rfl _).mono ?_
    rintro e w2 ⟨rfl, rfl⟩
    go_wp2_with fail
    refine wpAt_block ?_
    clear q0 q1 q2 r0 r1 r2
    have hb2 : Below w1.heap.size w1 ((w1.alloc (.cells #[.slice none 0 0] 56)).alloc (.cells #[.int .i64 S.kind, .slice a n c, .slice a' m c'] 31)) := ((Below.refl _ _).alloc (Nat.le_refl _) _).alloc (by simp) _
    have m0 : ((w1.alloc (.cells #[.slice none 0 0] 56)).alloc (.cells #[.int .i64 S.kind, .slice a n c, .slice a' m c'] 31)).cell? ⟨w1.heap.size, 0, none⟩ = some (.slice none 0 0) := by simp [go_sem]
    have f0 : ((w1.alloc (.cells #[.slice none 0 0] 56)).alloc (.cells #[.int .i64 S.kind, .slice a n c, .slice a' m c'] 31)).frozen? ⟨w1.heap.size, 0, none⟩ = false := by simp [go_sem]
    have hk : Kid ((w1.alloc (.cells #[.slice none 0 0] 56)).alloc (.cells #[.int .i64 S.kind, .slice a n c, .slice a' m c'] 31)) (w1.heap.size + 1) 0 S M := by
      refine ⟨by simp [go_sem], ?_, ?_⟩
      · rw [HK0.out.1]; simp [go_sem]
      · rw [HK0.out.2]; simp [go_sem]
    have hsz : ((w1.alloc (.cells #[.slice none 0 0] 56)).alloc (.cells #[.int .i64 S.kind, .slice a n c, .slice a' m c'] 31)).heap.size = w1.heap.size + 2 := by simp
    obtain ⟨W0, hW0⟩ : ∃ W0, ((w1.alloc (.cells #[.slice none 0 0] 56)).alloc (.cells #[.int .i64 S.kind, .slice a n c, .slice a' m c'] 31)) = W0 := ⟨_, rfl⟩
    rw [hW0] at hb2 m0 f0 hk hsz ⊢
    have hB2 := hB1.trans (hb2.mono hB1.size)
    have hT0 : In (· < w.heap.size) W0 S M := HT.out.below hB2
    have hseq := parts_seqK S M w.heap.size (w1.heap.size + 1) W0 (by omega) (by omega) hk hT0 hcnt
    have hparts := (okR_parts hT0).1 HF.out
    have hlen : (partsL S 0 M).length ≤ 24 := hparts.1
    have hX : ∀ k o, XW w1.heap.size (W0.heap.size + 2) k o → w.heap.size ≤ k ∧ (k < W0.heap.size ∨ ∀ cs fr, o ≠ .cells cs 31 fr) := fun k o h => by
      rcases h with rfl | ⟨h1, cs, fr, rfl⟩
      · exact ⟨by omega, .inl (by omega)⟩
      · exact ⟨by omega, .inr (fun cs' fr' e => by cases e)⟩
    clear hk hW0
    refine wpAt_rangeFunc_panK ⟨_, Tryd.func24⟩ (gf := 54) (lb := #[.pointer (some ⟨w1.heap.size + 1, 0, none⟩)]) rfl (enters_of Tryd.func54 (by kernel_rfl) rfl) hseq (fun _ => rfl) (by omega)
      (XW w1.heap.size (W0.heap.size + 2)) hX
      (RI w1.heap.size W0.heap.size W0)
      (fun _ _ => False)
      ?hI ⟨KeepsO.refl _ _, none, 0, 0, m0, f0, rfl, .inl ⟨rfl, rfl⟩⟩ ?round ?done (fun _ _ h => h.elim)
    case hI =>
      rintro s W W' ⟨h1, g, gn, gc, h2⟩ hk
      exact ⟨h1.trans_new hk (fun i hi => hi.1), g, gn, gc, h2.keeps hk (fun k hk => ⟨by omega, by omega⟩)⟩
    case done =>
      rintro W ⟨h1, g, gn, gc, h2⟩ hD
      have hB3 := hB2.trans (h1.below (m := w.heap.size) (by omega) (fun k o e => (hX k o e).1))
      have hz : W0.heap.size < W.heap.size := (Array.getElem?_eq_some_iff.1 hD).1
      have HJ : Hid (Calls Tryd.prog 46 #[.slice g gn gc, .string ⟨#[32]⟩] W fun e w' => e = .returned (.string ⟨(textS S).toArray⟩) ∧ Below W.heap.size W w') :=
        join_words (wordsL (partsL S 0 M)) (wordsL_ne (partsL_ne S 0 M)) _ _ g gn gc W h2 (by have := wordsL_len (partsL S 0 M); omega) (textS S) (words_text (okR_form HF.out)) (by have := textS_len (okR_form HF.out); omega)
      obtain ⟨h3, h4, h5⟩ := h2
      refine wpAt_of_wp ?_
      go_wp2_with fail
      refine HJ.out.mono ?_
      rintro e w5 ⟨rfl, hb5⟩
      go_wp2_with fail
      have hD' : w5.heap[W0.heap.size]? = some (.deferred (some [])) := (hb5.block _ hz).trans hD
      have hB5 := hB3.trans (hb5.mono hB3.size)
      rw [hsz] at hD'
      refine ⟨by simp, .inl ⟨_, _, rfl, run_takeDeferred hD', ?_⟩⟩
      refine ⟨.string ⟨(textS S).toArray⟩, by simp [results, Tryd.results24, go_sem], by rw [HR.out], ?_⟩
      exact hB5.trans (belowK_b (w := W0) (by omega) w5 _ _ _ (by omega) hD' rfl rfl)
    case round =>
      rintro l pre ⟨d, S', M'⟩ W hl ⟨h1, g, gn, gc, h2⟩ hlt hpre
      have hx : (d, S', M') ∈ partsL S 0 M := by
        obtain ⟨r, hr⟩ := hpre
        rw [← hr]; simp
      have hgood := (hparts.2 _ hx).2
      have hTx : In (· < w.heap.size) w S' M' := parts_in HT.out hx
      have hcx := parts_cnt hx
      have HLW : Hid ((wordsL pre).length ≤ 46) := by
        have h1 := hpre.length_le
        have h2 := wordsL_len pre
        simp at h1
        rw [Hid]; omega
      obtain ⟨kind, n, L, H, m, K, rfl, _⟩ := Sh.cases S'
      obtain ⟨sv, kv, Mk, rfl⟩ := Mx.cases M'
      obtain ⟨a, b, off, cap, a', b', off', cap', e1, hn, hs, hln, e2, hm, hlm, hk⟩ := hTx
      obtain rfl : sv = _ := e1
      obtain rfl : kv = _ := e2
      simp only [encP, vx, Sh.mk_kind, Mx.mk_sv, Mx.mk_kv]
      have hgB : goodB kind n L H m = true := hgood
      have hokB : okB n L H = true := good_ok hgB
      have hkind : kidsOf kind ≠ -1 := by
        obtain ⟨k, rfl, k1, k7⟩ := good_kind hgB
        simp only [goodB, Bool.and_eq_true, beq_iff_eq] at hgB
        have := hgB.1.1
        omega
      have HKIND : Hid (kidsOf kind ≠ -1) := hkind
      have HKO : Hid (∀ w, Calls Tryd.prog 44 #[.int .i64 kind] w fun e w' => e = .returned (.iface (kindT kind) (.agg #[])) ∧ w' = w) := kindOf_ok kind hkind
      have HKW : Hid (∀ w, Calls Tryd.prog (wordF kind) #[.agg #[]] w fun e w' => e = .returned (.string (wordS kind.toNat)) ∧ Below w.heap.size w w') := word_ok kind hkind
      have HSW : Hid (∀ w', Below w.heap.size w w' → Calls Tryd.prog 45 #[.slice a n cap] w' fun e w'' => ∃ s, e = .returned (.string s) ∧ tx s = setT n L H ∧ Below w'.heap.size w' w'') := fun w' hb =>
        implSetText_any a b off cap n L H w' (HP.out.below hb) (fun h => (hn h).1) (hs.below hb) (okB_in64 hokB) (by simp only [cnt_mk] at hcx; omega)
      clear hgood hgB hokB hkind hn hs hm hk hseq hpre hcx hparts m0 f0 hln hlm
      gi_wp2_with fail
      have hba : Below W.heap.size W (W.alloc (.cells #[.int .i64 kind, .slice a n cap, .slice a' m cap'] 31)) := (Below.refl _ _).alloc (Nat.le_refl _) _
      refine ⟨hba, fun W2 hK2 hs2 => ?_⟩
      have hwd2 : Wd w1.heap.size (W0.heap.size + 2) (wordsL pre) W2 g gn gc := (h2.below hba).keeps hK2 (fun k hk => ⟨by omega, by omega⟩)
      have z1 := hwd2.1
      have HWD : Hid (Wd w1.heap.size (W0.heap.size + 2) (wordsL pre) W2 g gn gc) := hwd2
      have hbox : W2.heap[W.heap.size]? = some (.cells #[.int .i64 kind, .slice a n cap, .slice a' m cap'] 31 (0, 0)) := (hK2.block W.heap.size (by simp) (by omega)).trans (World.alloc_heap_new W _)
      have z3 := cell_box (i := 0) hbox rfl
      have z4 := cell_box (i := 1) hbox rfl
      have hsz2 : W2.heap.size = W.heap.size + 1 := by rw [hs2]; simp
      have HK02 : Hid (KeepsO (XW w1.heap.size (W0.heap.size + 2)) W0 W2) := (h1.trans (keepsO_of_below _ hba)).trans_new hK2 (fun i hi => by omega)
      have HBOX : Hid _ := hbox
      have HBW : Hid (∀ W3, KeepsO (XW w1.heap.size (W0.heap.size + 2)) W2 W3 → Below w.heap.size w W3) := fun W3 h =>
        hB2.trans ((HK02.out.trans h).below (m := w.heap.size) (by omega) (fun k o e => (hX k o e).1))
      have HEND : Hid (∀ (W3 : World) (ws : List ByteArray) (g' : Option Addr) (n' c' : Nat), wordsL (pre ++ [(d, Sh.mk kind n L H m K, Mx.mk (.slice a n cap) (.slice a' m cap') Mk)]) = ws → KeepsO (XW w1.heap.size (W0.heap.size + 2)) W2 W3 → Wd w1.heap.size (W0.heap.size + 2) ws W3 g' n' c' →
          KeepsO (XW w1.heap.size (W0.heap.size + 2)) W2 W3 ∧ (∀ k, W0.heap.size ≤ k → k < W0.heap.size + 2 → W3.heap[k]? = W2.heap[k]?) ∧ RI w1.heap.size W0.heap.size W0 (pre ++ [(d, Sh.mk kind n L H m K, Mx.mk (.slice a n cap) (.slice a' m cap') Mk)]) W3) := fun W3 ws g' n' c' e h h' => by
        subst e
        refine ⟨h, fun k k1 k2 => h.block (by omega) (fun o ho hx => ?_), HK02.out.trans h, g', n', c', h'⟩
        rcases hx with e | ⟨e, _⟩ <;> omega
      have HONE : Hid (kind = 1 → wordsL (pre ++ [(d, Sh.mk kind n L H m K, Mx.mk (.slice a n cap) (.slice a' m cap') Mk)]) = wordsL pre ++ [wordS kind.toNat] ++ [⟨(setT n L H).toArray⟩]) := fun e => by
        rw [wordsL_snoc]; subst e; simp [partW, Sh.mk]
      have HNOT : Hid (kind ≠ 1 → wordsL (pre ++ [(d, Sh.mk kind n L H m K, Mx.mk (.slice a n cap) (.slice a' m cap') Mk)]) = wordsL pre ++ [wordS kind.toNat]) := fun e => by
        rw [wordsL_snoc]; simp [partW, Sh.mk, e]
      clear hK2 hs2 h1 h2 hba hwd2 hX hbox hx
      have hmix : Tryd.prog.follows .mixedOrders = true := by kernel_rfl
      gi_wp2_with fail
      refine wpIn_region_any_round hmix (by kernel_rfl) ?_
      refine wpAnyIn_take (i := 1) (v := .pointer (some ⟨W.heap.size, 0, none⟩)) rfl rfl (by kernel_rfl) (by kernel_rfl) (by kernel_rfl) (fun _ _ _ h => h) ⟨Or.inl ⟨by rfl, fun w => by go_simp⟩, fun _ => rfl⟩ ?_
      refine wpAnyIn_ready (rs := [0, 2]) (by kernel_rfl) (by simp) (AllReadyIn.cons rfl (fun K hK => ?_) (AllReadyIn.cons rfl (fun K hK => ?_) AllReadyIn.nil))
      · go_simp
        refine hK _ _ ?_
        clear hK K
        refine wpAnyIn_ready (rs := [2]) (by kernel_rfl) (by simp) (AllReadyIn.cons rfl (fun K hK => ?_) AllReadyIn.nil)
        go_simp
        refine hK _ _ ?_
        clear hK K
        refine wpAnyIn_ready (rs := [3]) (by kernel_rfl) (by simp) (AllReadyIn.cons rfl (fun K hK => ?_) AllReadyIn.nil)
        go_simp
        refine ⟨trivial, rfl, ((callsIn_wide (n := 0)).2 (HKO.out _)).mono ?_⟩
        rintro e w4 ⟨rfl, rfl⟩
        refine hK _ _ ?_
        clear hK K
        refine wpAnyIn_ready (rs := [4]) (by kernel_rfl) (by simp) (AllReadyIn.cons rfl (fun K hK => ?_) AllReadyIn.nil)
        go_simp
        rw [meth_word kind HKIND.out _ ?nm]
        case nm => kernel_rfl
        refine ⟨fun _ _ => trivial, ?_⟩
        simp only [Result.andThen]
        rw [enter_word kind HKIND.out]
        refine ⟨fun h => (by cases h), ((callsIn_wide (n := 0)).2 (HKW.out _)).mono ?_⟩
        rintro e w6 ⟨rfl, hb6⟩
        have hb6' : Below W2.heap.size W2 w6 := (Below.refl _ _).drew.trans hb6
        have x1 : w6.cell? ⟨w1.heap.size, 0, none⟩ = some (.slice g gn gc) := (hb6'.cell (p := ⟨w1.heap.size, 0, none⟩) (by show w1.heap.size < _; omega)).trans z1
        have hs6 : W2.heap.size ≤ w6.heap.size := hb6'.size
        refine hK _ _ ?_
        clear hK K
        refine wpAnyIn_ready (rs := [5]) (by kernel_rfl) (by simp) (AllReadyIn.cons rfl (fun K hK => ?_) AllReadyIn.nil)
        go_simp
        have hb7 : Below w6.heap.size w6 (w6.alloc (.cells #[.string (wordS kind.toNat)] 9)) := (Below.refl _ _).alloc (Nat.le_refl _) _
        have hb7' : Below W2.heap.size W2 (w6.alloc (.cells #[.string (wordS kind.toNat)] 9)) := hb6'.trans (hb7.mono hs6)
        have x2 : (w6.alloc (.cells #[.string (wordS kind.toNat)] 9)).cell? ⟨w1.heap.size, 0, none⟩ = some (.slice g gn gc) := (hb7'.cell (p := ⟨w1.heap.size, 0, none⟩) (by show w1.heap.size < _; omega)).trans z1
        refine hK _ _ ?_
        clear hK K
        refine wpAnyIn_ready (rs := [6]) (by kernel_rfl) (by simp) (AllReadyIn.cons rfl (fun K hK => ?_) AllReadyIn.nil)
        refine opIn_word (Bw := w1.heap.size) (base := W0.heap.size + 2) (ws := wordsL pre) (g := g) (n := gn) (c := gc) (b := w6.heap.size) (u := wordS kind.toNat) _ _ rfl (by go_simp) (by go_simp) (by simp [go_sem]) (HWD.out.below hb7') (by have := HLW.out; omega) (by omega) (by have := hb7'.size; omega) ?_
        intro g' gn' gc' w8 c8 f8 HF8
        refine hK _ _ ?_
        clear hK K
        refine wpAnyIn_ready (rs := [7]) (by kernel_rfl) (by simp) (AllReadyIn.cons rfl (fun K hK => ?_) AllReadyIn.nil)
        go_simp
        refine hK _ _ ?_
        clear hK K
        refine wpAnyIn_done (by kernel_rfl) ?_ _
        have HK3 : Hid (KeepsO (XW w1.heap.size (W0.heap.size + 2)) W2 (w8.setCell ⟨w1.heap.size, 0, none⟩ (.slice g' gn' gc'))) := (keepsO_of_below _ hb7').trans HF8.out.2
        obtain ⟨W3, hW3⟩ : ∃ W3, w8.setCell ⟨w1.heap.size, 0, none⟩ (.slice g' gn' gc') = W3 := ⟨_, rfl⟩
        rw [hW3] at HF8 HK3 ⊢
        have hbox3 : W3.heap[W.heap.size]? = some (.cells #[.int .i64 kind, .slice a n cap, .slice a' m cap'] 31 (0, 0)) := HK3.out.same _ _ HBOX.out (fun hx => by
          rcases hx with hx | ⟨_, cs, fr, hx⟩
          · omega
          · cases hx)
        have y3 := cell_box (i := 0) hbox3 rfl
        have y4 := cell_box (i := 1) hbox3 rfl
        have y1 := HF8.out.1.1
        have hs3 : W2.heap.size ≤ W3.heap.size := HK3.out.size
        have HWD3 : Hid (Wd w1.heap.size (W0.heap.size + 2) (wordsL pre ++ [wordS kind.toNat]) W3 g' gn' gc') := HF8.out.1
        clear hW3 hbox3 HF8 c8 f8 x1 x2 z1 z3 z4 hb6 hb6' hb7 hb7' hs6
        by_cases hone : kind = 1
        · have hk1 : (kind == 1) = true := by simpa using hone
          have HO : Hid _ := HONE.out hone
          clear hone
          gi_wp2_with fail
          refine wpIn_region_any_round hmix (by kernel_rfl) ?_
          refine wpAnyIn_take (i := 1) (v := .pointer (some ⟨W.heap.size, 1, none⟩)) rfl rfl (by kernel_rfl) (by kernel_rfl) (by kernel_rfl) (fun _ _ _ h => h) ⟨Or.inl ⟨by rfl, fun w => by go_simp⟩, fun _ => rfl⟩ ?_
          refine wpAnyIn_ready (rs := [0, 2]) (by kernel_rfl) (by simp) (AllReadyIn.cons rfl (fun K hK => ?_) (AllReadyIn.cons rfl (fun K hK => ?_) AllReadyIn.nil))
          · go_simp
            refine hK _ _ ?_
            clear hK K
            refine wpAnyIn_ready (rs := [2]) (by kernel_rfl) (by simp) (AllReadyIn.cons rfl (fun K hK => ?_) AllReadyIn.nil)
            go_simp
            refine hK _ _ ?_
            clear hK K
            refine wpAnyIn_ready (rs := [3]) (by kernel_rfl) (by simp) (AllReadyIn.cons rfl (fun K hK => ?_) AllReadyIn.nil)
            go_simp
            refine ⟨trivial, rfl, ((callsIn_wide (n := 0)).2 (HSW.out _ (HBW.out _ HK3.out).drew)).mono ?_⟩
            rintro e w9 ⟨st, rfl, hst, hb9⟩
            obtain rfl : st = ⟨(setT n L H).toArray⟩ := tx_inj (hst.trans (by simp [tx]))
            clear hst
            have hb9' : Below W3.heap.size W3 w9 := (Below.refl _ _).drew.trans hb9
            have x1 : w9.cell? ⟨w1.heap.size, 0, none⟩ = some (.slice g' gn' gc') := (hb9'.cell (p := ⟨w1.heap.size, 0, none⟩) (by show w1.heap.size < _; omega)).trans y1
            have hs9 : W3.heap.size ≤ w9.heap.size := hb9'.size
            refine hK _ _ ?_
            clear hK K
            refine wpAnyIn_ready (rs := [4]) (by kernel_rfl) (by simp) (AllReadyIn.cons rfl (fun K hK => ?_) AllReadyIn.nil)
            go_simp
            have hb10 : Below w9.heap.size w9 (w9.alloc (.cells #[.string ⟨(setT n L H).toArray⟩] 9)) := (Below.refl _ _).alloc (Nat.le_refl _) _
            have hb10' : Below W3.heap.size W3 (w9.alloc (.cells #[.string ⟨(setT n L H).toArray⟩] 9)) := hb9'.trans (hb10.mono hs9)
            have x2 : (w9.alloc (.cells #[.string ⟨(setT n L H).toArray⟩] 9)).cell? ⟨w1.heap.size, 0, none⟩ = some (.slice g' gn' gc') := (hb10'.cell (p := ⟨w1.heap.size, 0, none⟩) (by show w1.heap.size < _; omega)).trans y1
            refine hK _ _ ?_
            clear hK K
            refine wpAnyIn_ready (rs := [5]) (by kernel_rfl) (by simp) (AllReadyIn.cons rfl (fun K hK => ?_) AllReadyIn.nil)
            refine opIn_word (Bw := w1.heap.size) (base := W0.heap.size + 2) (ws := wordsL pre ++ [wordS kind.toNat]) (g := g') (n := gn') (c := gc') (b := w9.heap.size) (u := ⟨(setT n L H).toArray⟩) _ _ rfl (by go_simp) (by go_simp) (by simp [go_sem]) (HWD3.out.below hb10') (by simp only [List.length_append, List.length_cons, List.length_nil]; have := HLW.out; omega) (by omega) (by have := hb10'.size; omega) ?_
            intro g'' gn'' gc'' w11 c11 f11 HF11
            refine hK _ _ ?_
            clear hK K
            refine wpAnyIn_ready (rs := [6]) (by kernel_rfl) (by simp) (AllReadyIn.cons rfl (fun K hK => ?_) AllReadyIn.nil)
            go_simp
            refine hK _ _ ?_
            clear hK K
            refine wpAnyIn_done (by kernel_rfl) ?_ _
            exact HEND.out _ _ _ _ _ HO.out ((HK3.out.trans (keepsO_of_below _ hb10')).trans HF11.out.2) HF11.out.1
          · go_simp
            refine hK _ _ ?_
            clear hK K
            refine wpAnyIn_ready (rs := [0, 3]) (by kernel_rfl) (by simp) (AllReadyIn.cons rfl (fun K hK => ?_) (AllReadyIn.cons rfl (fun K hK => ?_) AllReadyIn.nil))
            · go_simp
              refine hK _ _ ?_
              clear hK K
              refine wpAnyIn_ready (rs := [3]) (by kernel_rfl) (by simp) (AllReadyIn.cons rfl (fun K hK => ?_) AllReadyIn.nil)
              go_simp
              refine ⟨trivial, rfl, ((callsIn_wide (n := 0)).2 (HSW.out _ (HBW.out _ HK3.out).drew)).mono ?_⟩
              rintro e w9 ⟨st, rfl, hst, hb9⟩
              obtain rfl : st = ⟨(setT n L H).toArray⟩ := tx_inj (hst.trans (by simp [tx]))
              clear hst
              have hb9' : Below W3.heap.size W3 w9 := (Below.refl _ _).drew.trans hb9
              have x1 : w9.cell? ⟨w1.heap.size, 0, none⟩ = some (.slice g' gn' gc') := (hb9'.cell (p := ⟨w1.heap.size, 0, none⟩) (by show w1.heap.size < _; omega)).trans y1
              have hs9 : W3.heap.size ≤ w9.heap.size := hb9'.size
              refine hK _ _ ?_
              clear hK K
              refine wpAnyIn_ready (rs := [4]) (by kernel_rfl) (by simp) (AllReadyIn.cons rfl (fun K hK => ?_) AllReadyIn.nil)
              go_simp
              have hb10 : Below w9.heap.size w9 (w9.alloc (.cells #[.string ⟨(setT n L H).toArray⟩] 9)) := (Below.refl _ _).alloc (Nat.le_refl _) _
              have hb10' : Below W3.heap.size W3 (w9.alloc (.cells #[.string ⟨(setT n L H).toArray⟩] 9)) := hb9'.trans (hb10.mono hs9)
              have x2 : (w9.alloc (.cells #[.string ⟨(setT n L H).toArray⟩] 9)).cell? ⟨w1.heap.size, 0, none⟩ = some (.slice g' gn' gc') := (hb10'.cell (p := ⟨w1.heap.size, 0, none⟩) (by show w1.heap.size < _; omega)).trans y1
              refine hK _ _ ?_
              clear hK K
              refine wpAnyIn_ready (rs := [5]) (by kernel_rfl) (by simp) (AllReadyIn.cons rfl (fun K hK => ?_) AllReadyIn.nil)
              refine opIn_word (Bw := w1.heap.size) (base := W0.heap.size + 2) (ws := wordsL pre ++ [wordS kind.toNat]) (g := g') (n := gn') (c := gc') (b := w9.heap.size) (u := ⟨(setT n L H).toArray⟩) _ _ rfl (by go_simp) (by go_simp) (by simp [go_sem]) (HWD3.out.below hb10') (by simp only [List.length_append, List.length_cons, List.length_nil]; have := HLW.out; omega) (by omega) (by have := hb10'.size; omega) ?_
              intro g'' gn'' gc'' w11 c11 f11 HF11
              refine hK _ _ ?_
              clear hK K
              refine wpAnyIn_ready (rs := [6]) (by kernel_rfl) (by simp) (AllReadyIn.cons rfl (fun K hK => ?_) AllReadyIn.nil)
              go_simp
              refine hK _ _ ?_
              clear hK K
              refine wpAnyIn_done (by kernel_rfl) ?_ _
              exact HEND.out _ _ _ _ _ HO.out ((HK3.out.trans (keepsO_of_below _ hb10')).trans HF11.out.2) HF11.out.1
            · go_simp
              refine ⟨trivial, rfl, ((callsIn_wide (n := 0)).2 (HSW.out _ (HBW.out _ HK3.out).drew)).mono ?_⟩
              rintro e w9 ⟨st, rfl, hst, hb9⟩
              obtain rfl : st = ⟨(setT n L H).toArray⟩ := tx_inj (hst.trans (by simp [tx]))
              clear hst
              have hb9' : Below W3.heap.size W3 w9 := (Below.refl _ _).drew.trans hb9
              have x1 : w9.cell? ⟨w1.heap.size, 0, none⟩ = some (.slice g' gn' gc') := (hb9'.cell (p := ⟨w1.heap.size, 0, none⟩) (by show w1.heap.size < _; omega)).trans y1
              have hs9 : W3.heap.size ≤ w9.heap.size := hb9'.size
              refine hK _ _ ?_
              clear hK K
              refine wpAnyIn_ready (rs := [0, 4]) (by kernel_rfl) (by simp) (AllReadyIn.cons rfl (fun K hK => ?_) (AllReadyIn.cons rfl (fun K hK => ?_) AllReadyIn.nil))
              · go_simp
                refine hK _ _ ?_
                clear hK K
                refine wpAnyIn_ready (rs := [4]) (by kernel_rfl) (by simp) (AllReadyIn.cons rfl (fun K hK => ?_) AllReadyIn.nil)
                go_simp
                have hb10 : Below w9.heap.size w9 (w9.alloc (.cells #[.string ⟨(setT n L H).toArray⟩] 9)) := (Below.refl _ _).alloc (Nat.le_refl _) _
                have hb10' : Below W3.heap.size W3 (w9.alloc (.cells #[.string ⟨(setT n L H).toArray⟩] 9)) := hb9'.trans (hb10.mono hs9)
                have x2 : (w9.alloc (.cells #[.string ⟨(setT n L H).toArray⟩] 9)).cell? ⟨w1.heap.size, 0, none⟩ = some (.slice g' gn' gc') := (hb10'.cell (p := ⟨w1.heap.size, 0, none⟩) (by show w1.heap.size < _; omega)).trans y1
                refine hK _ _ ?_
                clear hK K
                refine wpAnyIn_ready (rs := [5]) (by kernel_rfl) (by simp) (AllReadyIn.cons rfl (fun K hK => ?_) AllReadyIn.nil)
                refine opIn_word (Bw := w1.heap.size) (base := W0.heap.size + 2) (ws := wordsL pre ++ [wordS kind.toNat]) (g := g') (n := gn') (c := gc') (b := w9.heap.size) (u := ⟨(setT n L H).toArray⟩) _ _ rfl (by go_simp) (by go_simp) (by simp [go_sem]) (HWD3.out.below hb10') (by simp only [List.length_append, List.length_cons, List.length_nil]; have := HLW.out; omega) (by omega) (by have := hb10'.size; omega) ?_
                intro g'' gn'' gc'' w11 c11 f11 HF11
                refine hK _ _ ?_
                clear hK K
                refine wpAnyIn_ready (rs := [6]) (by kernel_rfl) (by simp) (AllReadyIn.cons rfl (fun K hK => ?_) AllReadyIn.nil)
                go_simp
                refine hK _ _ ?_
                clear hK K
                refine wpAnyIn_done (by kernel_rfl) ?_ _
                exact HEND.out _ _ _ _ _ HO.out ((HK3.out.trans (keepsO_of_below _ hb10')).trans HF11.out.2) HF11.out.1
              · go_simp
                have hb10 : Below w9.heap.size w9 (w9.alloc (.cells #[.string ⟨(setT n L H).toArray⟩] 9)) := (Below.refl _ _).alloc (Nat.le_refl _) _
                have hb10' : Below W3.heap.size W3 (w9.alloc (.cells #[.string ⟨(setT n L H).toArray⟩] 9)) := hb9'.trans (hb10.mono hs9)
                have x2 : (w9.alloc (.cells #[.string ⟨(setT n L H).toArray⟩] 9)).cell? ⟨w1.heap.size, 0, none⟩ = some (.slice g' gn' gc') := (hb10'.cell (p := ⟨w1.heap.size, 0, none⟩) (by show w1.heap.size < _; omega)).trans y1
                refine hK _ _ ?_
                clear hK K
                refine wpAnyIn_ready (rs := [0]) (by kernel_rfl) (by simp) (AllReadyIn.cons rfl (fun K hK => ?_) AllReadyIn.nil)
                go_simp
                refine hK _ _ ?_
                clear hK K
                refine wpAnyIn_ready (rs := [5]) (by kernel_rfl) (by simp) (AllReadyIn.cons rfl (fun K hK => ?_) AllReadyIn.nil)
                refine opIn_word (Bw := w1.heap.size) (base := W0.heap.size + 2) (ws := wordsL pre ++ [wordS kind.toNat]) (g := g') (n := gn') (c := gc') (b := w9.heap.size) (u := ⟨(setT n L H).toArray⟩) _ _ rfl (by go_simp) (by go_simp) (by simp [go_sem]) (HWD3.out.below hb10') (by simp only [List.length_append, List.length_cons, List.length_nil]; have := HLW.out; omega) (by omega) (by have := hb10'.size; omega) ?_
                intro g'' gn'' gc'' w11 c11 f11 HF11
                refine hK _ _ ?_
                clear hK K
                refine wpAnyIn_ready (rs := [6]) (by kernel_rfl) (by simp) (AllReadyIn.cons rfl (fun K hK => ?_) AllReadyIn.nil)
                go_simp
                refine hK _ _ ?_
                clear hK K
                refine wpAnyIn_done (by kernel_rfl) ?_ _
                exact HEND.out _ _ _ _ _ HO.out ((HK3.out.trans (keepsO_of_below _ hb10')).trans HF11.out.2) HF11.out.1
        · have hk1 : (kind == 1) = false := by simpa using hone
          have HO : Hid _ := HNOT.out hone
          clear hone
          gi_wp2_with fail
          exact HEND.out _ _ _ _ _ HO.out HK3.out HWD3.out
      · go_simp
        refine hK _ _ ?_
        clear hK K
        refine wpAnyIn_ready (rs := [0, 3]) (by kernel_rfl) (by simp) (AllReadyIn.cons rfl (fun K hK => ?_) (AllReadyIn.cons rfl (fun K hK => ?_) AllReadyIn.nil))
        · go_simp
          refine hK _ _ ?_
          clear hK K
          refine wpAnyIn_ready (rs := [3]) (by kernel_rfl) (by simp) (AllReadyIn.cons rfl (fun K hK => ?_) AllReadyIn.nil)
          go_simp
          refine ⟨trivial, rfl, ((callsIn_wide (n := 0)).2 (HKO.out _)).mono ?_⟩
          rintro e w4 ⟨rfl, rfl⟩
          refine hK _ _ ?_
          clear hK K
          refine wpAnyIn_ready (rs := [4]) (by kernel_rfl) (by simp) (AllReadyIn.cons rfl (fun K hK => ?_) AllReadyIn.nil)
          go_simp
          rw [meth_word kind HKIND.out _ ?nm]
          case nm => kernel_rfl
          refine ⟨fun _ _ => trivial, ?_⟩
          simp only [Result.andThen]
          rw [enter_word kind HKIND.out]
          refine ⟨fun h => (by cases h), ((callsIn_wide (n := 0)).2 (HKW.out _)).mono ?_⟩
          rintro e w6 ⟨rfl, hb6⟩
          have hb6' : Below W2.heap.size W2 w6 := (Below.refl _ _).drew.trans hb6
          have x1 : w6.cell? ⟨w1.heap.size, 0, none⟩ = some (.slice g gn gc) := (hb6'.cell (p := ⟨w1.heap.size, 0, none⟩) (by show w1.heap.size < _; omega)).trans z1
          have hs6 : W2.heap.size ≤ w6.heap.size := hb6'.size
          refine hK _ _ ?_
          clear hK K
          refine wpAnyIn_ready (rs := [5]) (by kernel_rfl) (by simp) (AllReadyIn.cons rfl (fun K hK => ?_) AllReadyIn.nil)
          go_simp
          have hb7 : Below w6.heap.size w6 (w6.alloc (.cells #[.string (wordS kind.toNat)] 9)) := (Below.refl _ _).alloc (Nat.le_refl _) _
          have hb7' : Below W2.heap.size W2 (w6.alloc (.cells #[.string (wordS kind.toNat)] 9)) := hb6'.trans (hb7.mono hs6)
          have x2 : (w6.alloc (.cells #[.string (wordS kind.toNat)] 9)).cell? ⟨w1.heap.size, 0, none⟩ = some (.slice g gn gc) := (hb7'.cell (p := ⟨w1.heap.size, 0, none⟩) (by show w1.heap.size < _; omega)).trans z1
          refine hK _ _ ?_
          clear hK K
          refine wpAnyIn_ready (rs := [6]) (by kernel_rfl) (by simp) (AllReadyIn.cons rfl (fun K hK => ?_) AllReadyIn.nil)
          refine opIn_word (Bw := w1.heap.size) (base := W0.heap.size + 2) (ws := wordsL pre) (g := g) (n := gn) (c := gc) (b := w6.heap.size) (u := wordS kind.toNat) _ _ rfl (by go_simp) (by go_simp) (by simp [go_sem]) (HWD.out.below hb7') (by have := HLW.out; omega) (by omega) (by have := hb7'.size; omega) ?_
          intro g' gn' gc' w8 c8 f8 HF8
          refine hK _ _ ?_
          clear hK K
          refine wpAnyIn_ready (rs := [7]) (by kernel_rfl) (by simp) (AllReadyIn.cons rfl (fun K hK => ?_) AllReadyIn.nil)
          go_simp
          refine hK _ _ ?_
          clear hK K
          refine wpAnyIn_done (by kernel_rfl) ?_ _
          have HK3 : Hid (KeepsO (XW w1.heap.size (W0.heap.size + 2)) W2 (w8.setCell ⟨w1.heap.size, 0, none⟩ (.slice g' gn' gc'))) := (keepsO_of_below _ hb7').trans HF8.out.2
          obtain ⟨W3, hW3⟩ : ∃ W3, w8.setCell ⟨w1.heap.size, 0, none⟩ (.slice g' gn' gc') = W3 := ⟨_, rfl⟩
          rw [hW3] at HF8 HK3 ⊢
          have hbox3 : W3.heap[W.heap.size]? = some (.cells #[.int .i64 kind, .slice a n cap, .slice a' m cap'] 31 (0, 0)) := HK3.out.same _ _ HBOX.out (fun hx => by
            rcases hx with hx | ⟨_, cs, fr, hx⟩
            · omega
            · cases hx)
          have y3 := cell_box (i := 0) hbox3 rfl
          have y4 := cell_box (i := 1) hbox3 rfl
          have y1 := HF8.out.1.1
          have hs3 : W2.heap.size ≤ W3.heap.size := HK3.out.size
          have HWD3 : Hid (Wd w1.heap.size (W0.heap.size + 2) (wordsL pre ++ [wordS kind.toNat]) W3 g' gn' gc') := HF8.out.1
          clear hW3 hbox3 HF8 c8 f8 x1 x2 z1 z3 z4 hb6 hb6' hb7 hb7' hs6
          by_cases hone : kind = 1
          · have hk1 : (kind == 1) = true := by simpa using hone
            have HO : Hid _ := HONE.out hone
            clear hone
            gi_wp2_with fail
            refine wpIn_region_any_round hmix (by kernel_rfl) ?_
            refine wpAnyIn_take (i := 1) (v := .pointer (some ⟨W.heap.size, 1, none⟩)) rfl rfl (by kernel_rfl) (by kernel_rfl) (by kernel_rfl) (fun _ _ _ h => h) ⟨Or.inl ⟨by rfl, fun w => by go_simp⟩, fun _ => rfl⟩ ?_
            refine wpAnyIn_ready (rs := [0, 2]) (by kernel_rfl) (by simp) (AllReadyIn.cons rfl (fun K hK => ?_) (AllReadyIn.cons rfl (fun K hK => ?_) AllReadyIn.nil))
            · go_simp
              refine hK _ _ ?_
              clear hK K
              refine wpAnyIn_ready (rs := [2]) (by kernel_rfl) (by simp) (AllReadyIn.cons rfl (fun K hK => ?_) AllReadyIn.nil)
              go_simp
              refine hK _ _ ?_
              clear hK K
              refine wpAnyIn_ready (rs := [3]) (by kernel_rfl) (by simp) (AllReadyIn.cons rfl (fun K hK => ?_) AllReadyIn.nil)
              go_simp
              refine ⟨trivial, rfl, ((callsIn_wide (n := 0)).2 (HSW.out _ (HBW.out _ HK3.out).drew)).mono ?_⟩
              rintro e w9 ⟨st, rfl, hst, hb9⟩
              obtain rfl : st = ⟨(setT n L H).toArray⟩ := tx_inj (hst.trans (by simp [tx]))
              clear hst
              have hb9' : Below W3.heap.size W3 w9 := (Below.refl _ _).drew.trans hb9
              have x1 : w9.cell? ⟨w1.heap.size, 0, none⟩ = some (.slice g' gn' gc') := (hb9'.cell (p := ⟨w1.heap.size, 0, none⟩) (by show w1.heap.size < _; omega)).trans y1
              have hs9 : W3.heap.size ≤ w9.heap.size := hb9'.size
              refine hK _ _ ?_
              clear hK K
              refine wpAnyIn_ready (rs := [4]) (by kernel_rfl) (by simp) (AllReadyIn.cons rfl (fun K hK => ?_) AllReadyIn.nil)
              go_simp
              have hb10 : Below w9.heap.size w9 (w9.alloc (.cells #[.string ⟨(setT n L H).toArray⟩] 9)) := (Below.refl _ _).alloc (Nat.le_refl _) _
              have hb10' : Below W3.heap.size W3 (w9.alloc (.cells #[.string ⟨(setT n L H).toArray⟩] 9)) := hb9'.trans (hb10.mono hs9)
              have x2 : (w9.alloc (.cells #[.string ⟨(setT n L H).toArray⟩] 9)).cell? ⟨w1.heap.size, 0, none⟩ = some (.slice g' gn' gc') := (hb10'.cell (p := ⟨w1.heap.size, 0, none⟩) (by show w1.heap.size < _; omega)).trans y1
              refine hK _ _ ?_
              clear hK K
              refine wpAnyIn_ready (rs := [5]) (by kernel_rfl) (by simp) (AllReadyIn.cons rfl (fun K hK => ?_) AllReadyIn.nil)
              refine opIn_word (Bw := w1.heap.size) (base := W0.heap.size + 2) (ws := wordsL pre ++ [wordS kind.toNat]) (g := g') (n := gn') (c := gc') (b := w9.heap.size) (u := ⟨(setT n L H).toArray⟩) _ _ rfl (by go_simp) (by go_simp) (by simp [go_sem]) (HWD3.out.below hb10') (by simp only [List.length_append, List.length_cons, List.length_nil]; have := HLW.out; omega) (by omega) (by have := hb10'.size; omega) ?_
              intro g'' gn'' gc'' w11 c11 f11 HF11
              refine hK _ _ ?_
              clear hK K
              refine wpAnyIn_ready (rs := [6]) (by kernel_rfl) (by simp) (AllReadyIn.cons rfl (fun K hK => ?_) AllReadyIn.nil)
              go_simp
              refine hK _ _ ?_
              clear hK K
              refine wpAnyIn_done (by kernel_rfl) ?_ _
              exact HEND.out _ _ _ _ _ HO.out ((HK3.out.trans (keepsO_of_below _ hb10')).trans HF11.out.2) HF11.out.1
            · go_simp
              refine hK _ _ ?_
              clear hK K
              refine wpAnyIn_ready (rs := [0, 3]) (by kernel_rfl) (by simp) (AllReadyIn.cons rfl (fun K hK => ?_) (AllReadyIn.cons rfl (fun K hK => ?_) AllReadyIn.nil))
              · go_simp
                refine hK _ _ ?_
                clear hK K
                refine wpAnyIn_ready (rs := [3]) (by kernel_rfl) (by simp) (AllReadyIn.cons rfl (fun K hK => ?_) AllReadyIn.nil)
                go_simp
                refine ⟨trivial, rfl, ((callsIn_wide (n := 0)).2 (HSW.out _ (HBW.out _ HK3.out).drew)).mono ?_⟩
                rintro e w9 ⟨st, rfl, hst, hb9⟩
                obtain rfl : st = ⟨(setT n L H).toArray⟩ := tx_inj (hst.trans (by simp [tx]))
                clear hst
                have hb9' : Below W3.heap.size W3 w9 := (Below.refl _ _).drew.trans hb9
                have x1 : w9.cell? ⟨w1.heap.size, 0, none⟩ = some (.slice g' gn' gc') := (hb9'.cell (p := ⟨w1.heap.size, 0, none⟩) (by show w1.heap.size < _; omega)).trans y1
                have hs9 : W3.heap.size ≤ w9.heap.size := hb9'.size
                refine hK _ _ ?_
                clear hK K
                refine wpAnyIn_ready (rs := [4]) (by kernel_rfl) (by simp) (AllReadyIn.cons rfl (fun K hK => ?_) AllReadyIn.nil)
                go_simp
                have hb10 : Below w9.heap.size w9 (w9.alloc (.cells #[.string ⟨(setT n L H).toArray⟩] 9)) := (Below.refl _ _).alloc (Nat.le_refl _) _
                have hb10' : Below W3.heap.size W3 (w9.alloc (.cells #[.string ⟨(setT n L H).toArray⟩] 9)) := hb9'.trans (hb10.mono hs9)
                have x2 : (w9.alloc (.cells #[.string ⟨(setT n L H).toArray⟩] 9)).cell? ⟨w1.heap.size, 0, none⟩ = some (.slice g' gn' gc') := (hb10'.cell (p := ⟨w1.heap.size, 0, none⟩) (by show w1.heap.size < _; omega)).trans y1
                refine hK _ _ ?_
                clear hK K
                refine wpAnyIn_ready (rs := [5]) (by kernel_rfl) (by simp) (AllReadyIn.cons rfl (fun K hK => ?_) AllReadyIn.nil)
                refine opIn_word (Bw := w1.heap.size) (base := W0.heap.size + 2) (ws := wordsL pre ++ [wordS kind.toNat]) (g := g') (n := gn') (c := gc') (b := w9.heap.size) (u := ⟨(setT n L H).toArray⟩) _ _ rfl (by go_simp) (by go_simp) (by simp [go_sem]) (HWD3.out.below hb10') (by simp only [List.length_append, List.length_cons, List.length_nil]; have := HLW.out; omega) (by omega) (by have := hb10'.size; omega) ?_
                intro g'' gn'' gc'' w11 c11 f11 HF11
                refine hK _ _ ?_
                clear hK K
                refine wpAnyIn_ready (rs := [6]) (by kernel_rfl) (by simp) (AllReadyIn.cons rfl (fun K hK => ?_) AllReadyIn.nil)
                go_simp
                refine hK _ _ ?_
                clear hK K
                refine wpAnyIn_done (by kernel_rfl) ?_ _
                exact HEND.out _ _ _ _ _ HO.out ((HK3.out.trans (keepsO_of_below _ hb10')).trans HF11.out.2) HF11.out.1
              · go_simp
                refine ⟨trivial, rfl, ((callsIn_wide (n := 0)).2 (HSW.out _ (HBW.out _ HK3.out).drew)).mono ?_⟩
                rintro e w9 ⟨st, rfl, hst, hb9⟩
                obtain rfl : st = ⟨(setT n L H).toArray⟩ := tx_inj (hst.trans (by simp [tx]))
                clear hst
                have hb9' : Below W3.heap.size W3 w9 := (Below.refl _ _).drew.trans hb9
                have x1 : w9.cell? ⟨w1.heap.size, 0, none⟩ = some (.slice g' gn' gc') := (hb9'.cell (p := ⟨w1.heap.size, 0, none⟩) (by show w1.heap.size < _; omega)).trans y1
                have hs9 : W3.heap.size ≤ w9.heap.size := hb9'.size
                refine hK _ _ ?_
                clear hK K
                refine wpAnyIn_ready (rs := [0, 4]) (by kernel_rfl) (by simp) (AllReadyIn.cons rfl (fun K hK => ?_) (AllReadyIn.cons rfl (fun K hK => ?_) AllReadyIn.nil))
                · go_simp
                  refine hK _ _ ?_
                  clear hK K
                  refine wpAnyIn_ready (rs := [4]) (by kernel_rfl) (by simp) (AllReadyIn.cons rfl (fun K hK => ?_) AllReadyIn.nil)
                  go_simp
                  have hb10 : Below w9.heap.size w9 (w9.alloc (.cells #[.string ⟨(setT n L H).toArray⟩] 9)) := (Below.refl _ _).alloc (Nat.le_refl _) _
                  have hb10' : Below W3.heap.size W3 (w9.alloc (.cells #[.string ⟨(setT n L H).toArray⟩] 9)) := hb9'.trans (hb10.mono hs9)
                  have x2 : (w9.alloc (.cells #[.string ⟨(setT n L H).toArray⟩] 9)).cell? ⟨w1.heap.size, 0, none⟩ = some (.slice g' gn' gc') := (hb10'.cell (p := ⟨w1.heap.size, 0, none⟩) (by show w1.heap.size < _; omega)).trans y1
                  refine hK _ _ ?_
                  clear hK K
                  refine wpAnyIn_ready (rs := [5]) (by kernel_rfl) (by simp) (AllReadyIn.cons rfl (fun K hK => ?_) AllReadyIn.nil)
                  refine opIn_word (Bw := w1.heap.size) (base := W0.heap.size + 2) (ws := wordsL pre ++ [wordS kind.toNat]) (g := g') (n := gn') (c := gc') (b := w9.heap.size) (u := ⟨(setT n L H).toArray⟩) _ _ rfl (by go_simp) (by go_simp) (by simp [go_sem]) (HWD3.out.below hb10') (by simp only [List.length_append, List.length_cons, List.length_nil]; have := HLW.out; omega) (by omega) (by have := hb10'.size; omega) ?_
                  intro g'' gn'' gc'' w11 c11 f11 HF11
                  refine hK _ _ ?_
                  clear hK K
                  refine wpAnyIn_ready (rs := [6]) (by kernel_rfl) (by simp) (AllReadyIn.cons rfl (fun K hK => ?_) AllReadyIn.nil)
                  go_simp
                  refine hK _ _ ?_
                  clear hK K
                  refine wpAnyIn_done (by kernel_rfl) ?_ _
                  exact HEND.out _ _ _ _ _ HO.out ((HK3.out.trans (keepsO_of_below _ hb10')).trans HF11.out.2) HF11.out.1
                · go_simp
                  have hb10 : Below w9.heap.size w9 (w9.alloc (.cells #[.string ⟨(setT n L H).toArray⟩] 9)) := (Below.refl _ _).alloc (Nat.le_refl _) _
                  have hb10' : Below W3.heap.size W3 (w9.alloc (.cells #[.string ⟨(setT n L H).toArray⟩] 9)) := hb9'.trans (hb10.mono hs9)
                  have x2 : (w9.alloc (.cells #[.string ⟨(setT n L H).toArray⟩] 9)).cell? ⟨w1.heap.size, 0, none⟩ = some (.slice g' gn' gc') := (hb10'.cell (p := ⟨w1.heap.size, 0, none⟩) (by show w1.heap.size < _; omega)).trans y1
                  refine hK _ _ ?_
                  clear hK K
                  refine wpAnyIn_ready (rs := [0]) (by kernel_rfl) (by simp) (AllReadyIn.cons rfl (fun K hK => ?_) AllReadyIn.nil)
                  go_simp
                  refine hK _ _ ?_
                  clear hK K
                  refine wpAnyIn_ready (rs := [5]) (by kernel_rfl) (by simp) (AllReadyIn.cons rfl (fun K hK => ?_) AllReadyIn.nil)
                  refine opIn_word (Bw := w1.heap.size) (base := W0.heap.size + 2) (ws := wordsL pre ++ [wordS kind.toNat]) (g := g') (n := gn') (c := gc') (b := w9.heap.size) (u := ⟨(setT n L H).toArray⟩) _ _ rfl (by go_simp) (by go_simp) (by simp [go_sem]) (HWD3.out.below hb10') (by simp only [List.length_append, List.length_cons, List.length_nil]; have := HLW.out; omega) (by omega) (by have := hb10'.size; omega) ?_
                  intro g'' gn'' gc'' w11 c11 f11 HF11
                  refine hK _ _ ?_
                  clear hK K
                  refine wpAnyIn_ready (rs := [6]) (by kernel_rfl) (by simp) (AllReadyIn.cons rfl (fun K hK => ?_) AllReadyIn.nil)
                  go_simp
                  refine hK _ _ ?_
                  clear hK K
                  refine wpAnyIn_done (by kernel_rfl) ?_ _
                  exact HEND.out _ _ _ _ _ HO.out ((HK3.out.trans (keepsO_of_below _ hb10')).trans HF11.out.2) HF11.out.1
          · have hk1 : (kind == 1) = false := by simpa using hone
            have HO : Hid _ := HNOT.out hone
            clear hone
            gi_wp2_with fail
            exact HEND.out _ _ _ _ _ HO.out HK3.out HWD3.out
        · go_simp
          refine ⟨trivial, rfl, ((callsIn_wide (n := 0)).2 (HKO.out _)).mono ?_⟩
          rintro e w4 ⟨rfl, rfl⟩
          refine hK _ _ ?_
          clear hK K
          refine wpAnyIn_ready (rs := [0, 4]) (by kernel_rfl) (by simp) (AllReadyIn.cons rfl (fun K hK => ?_) (AllReadyIn.cons rfl (fun K hK => ?_) AllReadyIn.nil))
          · go_simp
            refine hK _ _ ?_
            clear hK K
            refine wpAnyIn_ready (rs := [4]) (by kernel_rfl) (by simp) (AllReadyIn.cons rfl (fun K hK => ?_) AllReadyIn.nil)
            go_simp
            rw [meth_word kind HKIND.out _ ?nm]
            case nm => kernel_rfl
            refine ⟨fun _ _ => trivial, ?_⟩
            simp only [Result.andThen]
            rw [enter_word kind HKIND.out]
            refine ⟨fun h => (by cases h), ((callsIn_wide (n := 0)).2 (HKW.out _)).mono ?_⟩
            rintro e w6 ⟨rfl, hb6⟩
            have hb6' : Below W2.heap.size W2 w6 := (Below.refl _ _).drew.trans hb6
            have x1 : w6.cell? ⟨w1.heap.size, 0, none⟩ = some (.slice g gn gc) := (hb6'.cell (p := ⟨w1.heap.size, 0, none⟩) (by show w1.heap.size < _; omega)).trans z1
            have hs6 : W2.heap.size ≤ w6.heap.size := hb6'.size
            refine hK _ _ ?_
            clear hK K
            refine wpAnyIn_ready (rs := [5]) (by kernel_rfl) (by simp) (AllReadyIn.cons rfl (fun K hK => ?_) AllReadyIn.nil)
            go_simp
            have hb7 : Below w6.heap.size w6 (w6.alloc (.cells #[.string (wordS kind.toNat)] 9)) := (Below.refl _ _).alloc (Nat.le_refl _) _
            have hb7' : Below W2.heap.size W2 (w6.alloc (.cells #[.string (wordS kind.toNat)] 9)) := hb6'.trans (hb7.mono hs6)
            have x2 : (w6.alloc (.cells #[.string (wordS kind.toNat)] 9)).cell? ⟨w1.heap.size, 0, none⟩ = some (.slice g gn gc) := (hb7'.cell (p := ⟨w1.heap.size, 0, none⟩) (by show w1.heap.size < _; omega)).trans z1
            refine hK _ _ ?_
            clear hK K
            refine wpAnyIn_ready (rs := [6]) (by kernel_rfl) (by simp) (AllReadyIn.cons rfl (fun K hK => ?_) AllReadyIn.nil)
            refine opIn_word (Bw := w1.heap.size) (base := W0.heap.size + 2) (ws := wordsL pre) (g := g) (n := gn) (c := gc) (b := w6.heap.size) (u := wordS kind.toNat) _ _ rfl (by go_simp) (by go_simp) (by simp [go_sem]) (HWD.out.below hb7') (by have := HLW.out; omega) (by omega) (by have := hb7'.size; omega) ?_
            intro g' gn' gc' w8 c8 f8 HF8
            refine hK _ _ ?_
            clear hK K
            refine wpAnyIn_ready (rs := [7]) (by kernel_rfl) (by simp) (AllReadyIn.cons rfl (fun K hK => ?_) AllReadyIn.nil)
            go_simp
            refine hK _ _ ?_
            clear hK K
            refine wpAnyIn_done (by kernel_rfl) ?_ _
            have HK3 : Hid (KeepsO (XW w1.heap.size (W0.heap.size + 2)) W2 (w8.setCell ⟨w1.heap.size, 0, none⟩ (.slice g' gn' gc'))) := (keepsO_of_below _ hb7').trans HF8.out.2
            obtain ⟨W3, hW3⟩ : ∃ W3, w8.setCell ⟨w1.heap.size, 0, none⟩ (.slice g' gn' gc') = W3 := ⟨_, rfl⟩
            rw [hW3] at HF8 HK3 ⊢
            have hbox3 : W3.heap[W.heap.size]? = some (.cells #[.int .i64 kind, .slice a n cap, .slice a' m cap'] 31 (0, 0)) := HK3.out.same _ _ HBOX.out (fun hx => by
              rcases hx with hx | ⟨_, cs, fr, hx⟩
              · omega
              · cases hx)
            have y3 := cell_box (i := 0) hbox3 rfl
            have y4 := cell_box (i := 1) hbox3 rfl
            have y1 := HF8.out.1.1
            have hs3 : W2.heap.size ≤ W3.heap.size := HK3.out.size
            have HWD3 : Hid (Wd w1.heap.size (W0.heap.size + 2) (wordsL pre ++ [wordS kind.toNat]) W3 g' gn' gc') := HF8.out.1
            clear hW3 hbox3 HF8 c8 f8 x1 x2 z1 z3 z4 hb6 hb6' hb7 hb7' hs6
            by_cases hone : kind = 1
            · have hk1 : (kind == 1) = true := by simpa using hone
              have HO : Hid _ := HONE.out hone
              clear hone
              gi_wp2_with fail
              refine wpIn_region_any_round hmix (by kernel_rfl) ?_
              refine wpAnyIn_take (i := 1) (v := .pointer (some ⟨W.heap.size, 1, none⟩)) rfl rfl (by kernel_rfl) (by kernel_rfl) (by kernel_rfl) (fun _ _ _ h => h) ⟨Or.inl ⟨by rfl, fun w => by go_simp⟩, fun _ => rfl⟩ ?_
              refine wpAnyIn_ready (rs := [0, 2]) (by kernel_rfl) (by simp) (AllReadyIn.cons rfl (fun K hK => ?_) (AllReadyIn.cons rfl (fun K hK => ?_) AllReadyIn.nil))
              · go_simp
                refine hK _ _ ?_
                clear hK K
                refine wpAnyIn_ready (rs := [2]) (by kernel_rfl) (by simp) (AllReadyIn.cons rfl (fun K hK => ?_) AllReadyIn.nil)
                go_simp
                refine hK _ _ ?_
                clear hK K
                refine wpAnyIn_ready (rs := [3]) (by kernel_rfl) (by simp) (AllReadyIn.cons rfl (fun K hK => ?_) AllReadyIn.nil)
                go_simp
                refine ⟨trivial, rfl, ((callsIn_wide (n := 0)).2 (HSW.out _ (HBW.out _ HK3.out).drew)).mono ?_⟩
                rintro e w9 ⟨st, rfl, hst, hb9⟩
                obtain rfl : st = ⟨(setT n L H).toArray⟩ := tx_inj (hst.trans (by simp [tx]))
                clear hst
                have hb9' : Below W3.heap.size W3 w9 := (Below.refl _ _).drew.trans hb9
                have x1 : w9.cell? ⟨w1.heap.size, 0, none⟩ = some (.slice g' gn' gc') := (hb9'.cell (p := ⟨w1.heap.size, 0, none⟩) (by show w1.heap.size < _; omega)).trans y1
                have hs9 : W3.heap.size ≤ w9.heap.size := hb9'.size
                refine hK _ _ ?_
                clear hK K
                refine wpAnyIn_ready (rs := [4]) (by kernel_rfl) (by simp) (AllReadyIn.cons rfl (fun K hK => ?_) AllReadyIn.nil)
                go_simp
                have hb10 : Below w9.heap.size w9 (w9.alloc (.cells #[.string ⟨(setT n L H).toArray⟩] 9)) := (Below.refl _ _).alloc (Nat.le_refl _) _
                have hb10' : Below W3.heap.size W3 (w9.alloc (.cells #[.string ⟨(setT n L H).toArray⟩] 9)) := hb9'.trans (hb10.mono hs9)
                have x2 : (w9.alloc (.cells #[.string ⟨(setT n L H).toArray⟩] 9)).cell? ⟨w1.heap.size, 0, none⟩ = some (.slice g' gn' gc') := (hb10'.cell (p := ⟨w1.heap.size, 0, none⟩) (by show w1.heap.size < _; omega)).trans y1
                refine hK _ _ ?_
                clear hK K
                refine wpAnyIn_ready (rs := [5]) (by kernel_rfl) (by simp) (AllReadyIn.cons rfl (fun K hK => ?_) AllReadyIn.nil)
                refine opIn_word (Bw := w1.heap.size) (base := W0.heap.size + 2) (ws := wordsL pre ++ [wordS kind.toNat]) (g := g') (n := gn') (c := gc') (b := w9.heap.size) (u := ⟨(setT n L H).toArray⟩) _ _ rfl (by go_simp) (by go_simp) (by simp [go_sem]) (HWD3.out.below hb10') (by simp only [List.length_append, List.length_cons, List.length_nil]; have := HLW.out; omega) (by omega) (by have := hb10'.size; omega) ?_
                intro g'' gn'' gc'' w11 c11 f11 HF11
                refine hK _ _ ?_
                clear hK K
                refine wpAnyIn_ready (rs := [6]) (by kernel_rfl) (by simp) (AllReadyIn.cons rfl (fun K hK => ?_) AllReadyIn.nil)
                go_simp
                refine hK _ _ ?_
                clear hK K
                refine wpAnyIn_done (by kernel_rfl) ?_ _
                exact HEND.out _ _ _ _ _ HO.out ((HK3.out.trans (keepsO_of_below _ hb10')).trans HF11.out.2) HF11.out.1
              · go_simp
                refine hK _ _ ?_
                clear hK K
                refine wpAnyIn_ready (rs := [0, 3]) (by kernel_rfl) (by simp) (AllReadyIn.cons rfl (fun K hK => ?_) (AllReadyIn.cons rfl (fun K hK => ?_) AllReadyIn.nil))
                · go_simp
                  refine hK _ _ ?_
                  clear hK K
                  refine wpAnyIn_ready (rs := [3]) (by kernel_rfl) (by simp) (AllReadyIn.cons rfl (fun K hK => ?_) AllReadyIn.nil)
                  go_simp
                  refine ⟨trivial, rfl, ((callsIn_wide (n := 0)).2 (HSW.out _ (HBW.out _ HK3.out).drew)).mono ?_⟩
                  rintro e w9 ⟨st, rfl, hst, hb9⟩
                  obtain rfl : st = ⟨(setT n L H).toArray⟩ := tx_inj (hst.trans (by simp [tx]))
                  clear hst
                  have hb9' : Below W3.heap.size W3 w9 := (Below.refl _ _).drew.trans hb9
                  have x1 : w9.cell? ⟨w1.heap.size, 0, none⟩ = some (.slice g' gn' gc') := (hb9'.cell (p := ⟨w1.heap.size, 0, none⟩) (by show w1.heap.size < _; omega)).trans y1
                  have hs9 : W3.heap.size ≤ w9.heap.size := hb9'.size
                  refine hK _ _ ?_
                  clear hK K
                  refine wpAnyIn_ready (rs := [4]) (by kernel_rfl) (by simp) (AllReadyIn.cons rfl (fun K hK => ?_) AllReadyIn.nil)
                  go_simp
                  have hb10 : Below w9.heap.size w9 (w9.alloc (.cells #[.string ⟨(setT n L H).toArray⟩] 9)) := (Below.refl _ _).alloc (Nat.le_refl _) _
                  have hb10' : Below W3.heap.size W3 (w9.alloc (.cells #[.string ⟨(setT n L H).toArray⟩] 9)) := hb9'.trans (hb10.mono hs9)
                  have x2 : (w9.alloc (.cells #[.string ⟨(setT n L H).toArray⟩] 9)).cell? ⟨w1.heap.size, 0, none⟩ = some (.slice g' gn' gc') := (hb10'.cell (p := ⟨w1.heap.size, 0, none⟩) (by show w1.heap.size < _; omega)).trans y1
                  refine hK _ _ ?_
                  clear hK K
                  refine wpAnyIn_ready (rs := [5]) (by kernel_rfl) (by simp) (AllReadyIn.cons rfl (fun K hK => ?_) AllReadyIn.nil)
                  refine opIn_word (Bw := w1.heap.size) (base := W0.heap.size + 2) (ws := wordsL pre ++ [wordS kind.toNat]) (g := g') (n := gn') (c := gc') (b := w9.heap.size) (u := ⟨(setT n L H).toArray⟩) _ _ rfl (by go_simp) (by go_simp) (by simp [go_sem]) (HWD3.out.below hb10') (by simp only [List.length_append, List.length_cons, List.length_nil]; have := HLW.out; omega) (by omega) (by have := hb10'.size; omega) ?_
                  intro g'' gn'' gc'' w11 c11 f11 HF11
                  refine hK _ _ ?_
                  clear hK K
                  refine wpAnyIn_ready (rs := [6]) (by kernel_rfl) (by simp) (AllReadyIn.cons rfl (fun K hK => ?_) AllReadyIn.nil)
                  go_simp
                  refine hK _ _ ?_
                  clear hK K
                  refine wpAnyIn_done (by kernel_rfl) ?_ _
                  exact HEND.out _ _ _ _ _ HO.out ((HK3.out.trans (keepsO_of_below _ hb10')).trans HF11.out.2) HF11.out.1
                · go_simp
                  refine ⟨trivial, rfl, ((callsIn_wide (n := 0)).2 (HSW.out _ (HBW.out _ HK3.out).drew)).mono ?_⟩
                  rintro e w9 ⟨st, rfl, hst, hb9⟩
                  obtain rfl : st = ⟨(setT n L H).toArray⟩ := tx_inj (hst.trans (by simp [tx]))
                  clear hst
                  have hb9' : Below W3.heap.size W3 w9 := (Below.refl _ _).drew.trans hb9
                  have x1 : w9.cell? ⟨w1.heap.size, 0, none⟩ = some (.slice g' gn' gc') := (hb9'.cell (p := ⟨w1.heap.size, 0, none⟩) (by show w1.heap.size < _; omega)).trans y1
                  have hs9 : W3.heap.size ≤ w9.heap.size := hb9'.size
                  refine hK _ _ ?_
                  clear hK K
                  refine wpAnyIn_ready (rs := [0, 4]) (by kernel_rfl) (by simp) (AllReadyIn.cons rfl (fun K hK => ?_) (AllReadyIn.cons rfl (fun K hK => ?_) AllReadyIn.nil))
                  · go_simp
                    refine hK _ _ ?_
                    clear hK K
                    refine wpAnyIn_ready (rs := [4]) (by kernel_rfl) (by simp) (AllReadyIn.cons rfl (fun K hK => ?_) AllReadyIn.nil)
                    go_simp
                    have hb10 : Below w9.heap.size w9 (w9.alloc (.cells #[.string ⟨(setT n L H).toArray⟩] 9)) := (Below.refl _ _).alloc (Nat.le_refl _) _
                    have hb10' : Below W3.heap.size W3 (w9.alloc (.cells #[.string ⟨(setT n L H).toArray⟩] 9)) := hb9'.trans (hb10.mono hs9)
                    have x2 : (w9.alloc (.cells #[.string ⟨(setT n L H).toArray⟩] 9)).cell? ⟨w1.heap.size, 0, none⟩ = some (.slice g' gn' gc') := (hb10'.cell (p := ⟨w1.heap.size, 0, none⟩) (by show w1.heap.size < _; omega)).trans y1
                    refine hK _ _ ?_
                    clear hK K
                    refine wpAnyIn_ready (rs := [5]) (by kernel_rfl) (by simp) (AllReadyIn.cons rfl (fun K hK => ?_) AllReadyIn.nil)
                    refine opIn_word (Bw := w1.heap.size) (base := W0.heap.size + 2) (ws := wordsL pre ++ [wordS kind.toNat]) (g := g') (n := gn') (c := gc') (b := w9.heap.size) (u := ⟨(setT n L H).toArray⟩) _ _ rfl (by go_simp) (by go_simp) (by simp [go_sem]) (HWD3.out.below hb10') (by simp only [List.length_append, List.length_cons, List.length_nil]; have := HLW.out; omega) (by omega) (by have := hb10'.size; omega) ?_
                    intro g'' gn'' gc'' w11 c11 f11 HF11
                    refine hK _ _ ?_
                    clear hK K
                    refine wpAnyIn_ready (rs := [6]) (by kernel_rfl) (by simp) (AllReadyIn.cons rfl (fun K hK => ?_) AllReadyIn.nil)
                    go_simp
                    refine hK _ _ ?_
                    clear hK K
                    refine wpAnyIn_done (by kernel_rfl) ?_ _
                    exact HEND.out _ _ _ _ _ HO.out ((HK3.out.trans (keepsO_of_below _ hb10')).trans HF11.out.2) HF11.out.1
                  · go_simp
                    have hb10 : Below w9.heap.size w9 (w9.alloc (.cells #[.string ⟨(setT n L H).toArray⟩] 9)) := (Below.refl _ _).alloc (Nat.le_refl _) _
                    have hb10' : Below W3.heap.size W3 (w9.alloc (.cells #[.string ⟨(setT n L H).toArray⟩] 9)) := hb9'.trans (hb10.mono hs9)
                    have x2 : (w9.alloc (.cells #[.string ⟨(setT n L H).toArray⟩] 9)).cell? ⟨w1.heap.size, 0, none⟩ = some (.slice g' gn' gc') := (hb10'.cell (p := ⟨w1.heap.size, 0, none⟩) (by show w1.heap.size < _; omega)).trans y1
                    refine hK _ _ ?_
                    clear hK K
                    refine wpAnyIn_ready (rs := [0]) (by kernel_rfl) (by simp) (AllReadyIn.cons rfl (fun K hK => ?_) AllReadyIn.nil)
                    go_simp
                    refine hK _ _ ?_
                    clear hK K
                    refine wpAnyIn_ready (rs := [5]) (by kernel_rfl) (by simp) (AllReadyIn.cons rfl (fun K hK => ?_) AllReadyIn.nil)
                    refine opIn_word (Bw := w1.heap.size) (base := W0.heap.size + 2) (ws := wordsL pre ++ [wordS kind.toNat]) (g := g') (n := gn') (c := gc') (b := w9.heap.size) (u := ⟨(setT n L H).toArray⟩) _ _ rfl (by go_simp) (by go_simp) (by simp [go_sem]) (HWD3.out.below hb10') (by simp only [List.length_append, List.length_cons, List.length_nil]; have := HLW.out; omega) (by omega) (by have := hb10'.size; omega) ?_
                    intro g'' gn'' gc'' w11 c11 f11 HF11
                    refine hK _ _ ?_
                    clear hK K
                    refine wpAnyIn_ready (rs := [6]) (by kernel_rfl) (by simp) (AllReadyIn.cons rfl (fun K hK => ?_) AllReadyIn.nil)
                    go_simp
                    refine hK _ _ ?_
                    clear hK K
                    refine wpAnyIn_done (by kernel_rfl) ?_ _
                    exact HEND.out _ _ _ _ _ HO.out ((HK3.out.trans (keepsO_of_below _ hb10')).trans HF11.out.2) HF11.out.1
            · have hk1 : (kind == 1) = false := by simpa using hone
              have HO : Hid _ := HNOT.out hone
              clear hone
              gi_wp2_with fail
              exact HEND.out _ _ _ _ _ HO.out HK3.out HWD3.out
          · go_simp
            rw [meth_word kind HKIND.out _ ?nm]
            case nm => kernel_rfl
            refine ⟨fun _ _ => trivial, ?_⟩
            simp only [Result.andThen]
            rw [enter_word kind HKIND.out]
            refine ⟨fun h => (by cases h), ((callsIn_wide (n := 0)).2 (HKW.out _)).mono ?_⟩
            rintro e w6 ⟨rfl, hb6⟩
            have hb6' : Below W2.heap.size W2 w6 := (Below.refl _ _).drew.trans hb6
            have x1 : w6.cell? ⟨w1.heap.size, 0, none⟩ = some (.slice g gn gc) := (hb6'.cell (p := ⟨w1.heap.size, 0, none⟩) (by show w1.heap.size < _; omega)).trans z1
            have hs6 : W2.heap.size ≤ w6.heap.size := hb6'.size
            refine hK _ _ ?_
            clear hK K
            refine wpAnyIn_ready (rs := [0, 5]) (by kernel_rfl) (by simp) (AllReadyIn.cons rfl (fun K hK => ?_) (AllReadyIn.cons rfl (fun K hK => ?_) AllReadyIn.nil))
            · go_simp
              refine hK _ _ ?_
              clear hK K
              refine wpAnyIn_ready (rs := [5]) (by kernel_rfl) (by simp) (AllReadyIn.cons rfl (fun K hK => ?_) AllReadyIn.nil)
              go_simp
              have hb7 : Below w6.heap.size w6 (w6.alloc (.cells #[.string (wordS kind.toNat)] 9)) := (Below.refl _ _).alloc (Nat.le_refl _) _
              have hb7' : Below W2.heap.size W2 (w6.alloc (.cells #[.string (wordS kind.toNat)] 9)) := hb6'.trans (hb7.mono hs6)
              have x2 : (w6.alloc (.cells #[.string (wordS kind.toNat)] 9)).cell? ⟨w1.heap.size, 0, none⟩ = some (.slice g gn gc) := (hb7'.cell (p := ⟨w1.heap.size, 0, none⟩) (by show w1.heap.size < _; omega)).trans z1
              refine hK _ _ ?_
              clear hK K
              refine wpAnyIn_ready (rs := [6]) (by kernel_rfl) (by simp) (AllReadyIn.cons rfl (fun K hK => ?_) AllReadyIn.nil)
              refine opIn_word (Bw := w1.heap.size) (base := W0.heap.size + 2) (ws := wordsL pre) (g := g) (n := gn) (c := gc) (b := w6.heap.size) (u := wordS kind.toNat) _ _ rfl (by go_simp) (by go_simp) (by simp [go_sem]) (HWD.out.below hb7') (by have := HLW.out; omega) (by omega) (by have := hb7'.size; omega) ?_
              intro g' gn' gc' w8 c8 f8 HF8
              refine hK _ _ ?_
              clear hK K
              refine wpAnyIn_ready (rs := [7]) (by kernel_rfl) (by simp) (AllReadyIn.cons rfl (fun K hK => ?_) AllReadyIn.nil)
              go_simp
              refine hK _ _ ?_
              clear hK K
              refine wpAnyIn_done (by kernel_rfl) ?_ _
              have HK3 : Hid (KeepsO (XW w1.heap.size (W0.heap.size + 2)) W2 (w8.setCell ⟨w1.heap.size, 0, none⟩ (.slice g' gn' gc'))) := (keepsO_of_below _ hb7').trans HF8.out.2
              obtain ⟨W3, hW3⟩ : ∃ W3, w8.setCell ⟨w1.heap.size, 0, none⟩ (.slice g' gn' gc') = W3 := ⟨_, rfl⟩
              rw [hW3] at HF8 HK3 ⊢
              have hbox3 : W3.heap[W.heap.size]? = some (.cells #[.int .i64 kind, .slice a n cap, .slice a' m cap'] 31 (0, 0)) := HK3.out.same _ _ HBOX.out (fun hx => by
                rcases hx with hx | ⟨_, cs, fr, hx⟩
                · omega
                · cases hx)
              have y3 := cell_box (i := 0) hbox3 rfl
              have y4 := cell_box (i := 1) hbox3 rfl
              have y1 := HF8.out.1.1
              have hs3 : W2.heap.size ≤ W3.heap.size := HK3.out.size
              have HWD3 : Hid (Wd w1.heap.size (W0.heap.size + 2) (wordsL pre ++ [wordS kind.toNat]) W3 g' gn' gc') := HF8.out.1
              clear hW3 hbox3 HF8 c8 f8 x1 x2 z1 z3 z4 hb6 hb6' hb7 hb7' hs6
              by_cases hone : kind = 1
              · have hk1 : (kind == 1) = true := by simpa using hone
                have HO : Hid _ := HONE.out hone
                clear hone
                gi_wp2_with fail
                refine wpIn_region_any_round hmix (by kernel_rfl) ?_
                refine wpAnyIn_take (i := 1) (v := .pointer (some ⟨W.heap.size, 1, none⟩)) rfl rfl (by kernel_rfl) (by kernel_rfl) (by kernel_rfl) (fun _ _ _ h => h) ⟨Or.inl ⟨by rfl, fun w => by go_simp⟩, fun _ => rfl⟩ ?_
                refine wpAnyIn_ready (rs := [0, 2]) (by kernel_rfl) (by simp) (AllReadyIn.cons rfl (fun K hK => ?_) (AllReadyIn.cons rfl (fun K hK => ?_) AllReadyIn.nil))
                · go_simp
                  refine hK _ _ ?_
                  clear hK K
                  refine wpAnyIn_ready (rs := [2]) (by kernel_rfl) (by simp) (AllReadyIn.cons rfl (fun K hK => ?_) AllReadyIn.nil)
                  go_simp
                  refine hK _ _ ?_
                  clear hK K
                  refine wpAnyIn_ready (rs := [3]) (by kernel_rfl) (by simp) (AllReadyIn.cons rfl (fun K hK => ?_) AllReadyIn.nil)
                  go_simp
                  refine ⟨trivial, rfl, ((callsIn_wide (n := 0)).2 (HSW.out _ (HBW.out _ HK3.out).drew)).mono ?_⟩
                  rintro e w9 ⟨st, rfl, hst, hb9⟩
                  obtain rfl : st = ⟨(setT n L H).toArray⟩ := tx_inj (hst.trans (by simp [tx]))
                  clear hst
                  have hb9' : Below W3.heap.size W3 w9 := (Below.refl _ _).drew.trans hb9
                  have x1 : w9.cell? ⟨w1.heap.size, 0, none⟩ = some (.slice g' gn' gc') := (hb9'.cell (p := ⟨w1.heap.size, 0, none⟩) (by show w1.heap.size < _; omega)).trans y1
                  have hs9 : W3.heap.size ≤ w9.heap.size := hb9'.size
                  refine hK _ _ ?_
                  clear hK K
                  refine wpAnyIn_ready (rs := [4]) (by kernel_rfl) (by simp) (AllReadyIn.cons rfl (fun K hK => ?_) AllReadyIn.nil)
                  go_simp
                  have hb10 : Below w9.heap.size w9 (w9.alloc (.cells #[.string ⟨(setT n L H).toArray⟩] 9)) := (Below.refl _ _).alloc (Nat.le_refl _) _
                  have hb10' : Below W3.heap.size W3 (w9.alloc (.cells #[.string ⟨(setT n L H).toArray⟩] 9)) := hb9'.trans (hb10.mono hs9)
                  have x2 : (w9.alloc (.cells #[.string ⟨(setT n L H).toArray⟩] 9)).cell? ⟨w1.heap.size, 0, none⟩ = some (.slice g' gn' gc') := (hb10'.cell (p := ⟨w1.heap.size, 0, none⟩) (by show w1.heap.size < _; omega)).trans y1
                  refine hK _ _ ?_
                  clear hK K
                  refine wpAnyIn_ready (rs := [5]) (by kernel_rfl) (by simp) (AllReadyIn.cons rfl (fun K hK => ?_) AllReadyIn.nil)
                  refine opIn_word (Bw := w1.heap.size) (base := W0.heap.size + 2) (ws := wordsL pre ++ [wordS kind.toNat]) (g := g') (n := gn') (c := gc') (b := w9.heap.size) (u := ⟨(setT n L H).toArray⟩) _ _ rfl (by go_simp) (by go_simp) (by simp [go_sem]) (HWD3.out.below hb10') (by simp only [List.length_append, List.length_cons, List.length_nil]; have := HLW.out; omega) (by omega) (by have := hb10'.size; omega) ?_
                  intro g'' gn'' gc'' w11 c11 f11 HF11
                  refine hK _ _ ?_
                  clear hK K
                  refine wpAnyIn_ready (rs := [6]) (by kernel_rfl) (by simp) (AllReadyIn.cons rfl (fun K hK => ?_) AllReadyIn.nil)
                  go_simp
                  refine hK _ _ ?_
                  clear hK K
                  refine wpAnyIn_done (by kernel_rfl) ?_ _
                  exact HEND.out _ _ _ _ _ HO.out ((HK3.out.trans (keepsO_of_below _ hb10')).trans HF11.out.2) HF11.out.1
                · go_simp
                  refine hK _ _ ?_
                  clear hK K
                  refine wpAnyIn_ready (rs := [0, 3]) (by kernel_rfl) (by simp) (AllReadyIn.cons rfl (fun K hK => ?_) (AllReadyIn.cons rfl (fun K hK => ?_) AllReadyIn.nil))
                  · go_simp
                    refine hK _ _ ?_
                    clear hK K
                    refine wpAnyIn_ready (rs := [3]) (by kernel_rfl) (by simp) (AllReadyIn.cons rfl (fun K hK => ?_) AllReadyIn.nil)
                    go_simp
                    refine ⟨trivial, rfl, ((callsIn_wide (n := 0)).2 (HSW.out _ (HBW.out _ HK3.out).drew)).mono ?_⟩
                    rintro e w9 ⟨st, rfl, hst, hb9⟩
                    obtain rfl : st = ⟨(setT n L H).toArray⟩ := tx_inj (hst.trans (by simp [tx]))
                    clear hst
                    have hb9' : Below W3.heap.size W3 w9 := (Below.refl _ _).drew.trans hb9
                    have x1 : w9.cell? ⟨w1.heap.size, 0, none⟩ = some (.slice g' gn' gc') := (hb9'.cell (p := ⟨w1.heap.size, 0, none⟩) (by show w1.heap.size < _; omega)).trans y1
                    have hs9 : W3.heap.size ≤ w9.heap.size := hb9'.size
                    refine hK _ _ ?_
                    clear hK K
                    refine wpAnyIn_ready (rs := [4]) (by kernel_rfl) (by simp) (AllReadyIn.cons rfl (fun K hK => ?_) AllReadyIn.nil)
                    go_simp
                    have hb10 : Below w9.heap.size w9 (w9.alloc (.cells #[.string ⟨(setT n L H).toArray⟩] 9)) := (Below.refl _ _).alloc (Nat.le_refl _) _
                    have hb10' : Below W3.heap.size W3 (w9.alloc (.cells #[.string ⟨(setT n L H).toArray⟩] 9)) := hb9'.trans (hb10.mono hs9)
                    have x2 : (w9.alloc (.cells #[.string ⟨(setT n L H).toArray⟩] 9)).cell? ⟨w1.heap.size, 0, none⟩ = some (.slice g' gn' gc') := (hb10'.cell (p := ⟨w1.heap.size, 0, none⟩) (by show w1.heap.size < _; omega)).trans y1
                    refine hK _ _ ?_
                    clear hK K
                    refine wpAnyIn_ready (rs := [5]) (by kernel_rfl) (by simp) (AllReadyIn.cons rfl (fun K hK => ?_) AllReadyIn.nil)
                    refine opIn_word (Bw := w1.heap.size) (base := W0.heap.size + 2) (ws := wordsL pre ++ [wordS kind.toNat]) (g := g') (n := gn') (c := gc') (b := w9.heap.size) (u := ⟨(setT n L H).toArray⟩) _ _ rfl (by go_simp) (by go_simp) (by simp [go_sem]) (HWD3.out.below hb10') (by simp only [List.length_append, List.length_cons, List.length_nil]; have := HLW.out; omega) (by omega) (by have := hb10'.size; omega) ?_
                    intro g'' gn'' gc'' w11 c11 f11 HF11
                    refine hK _ _ ?_
                    clear hK K
                    refine wpAnyIn_ready (rs := [6]) (by kernel_rfl) (by simp) (AllReadyIn.cons rfl (fun K hK => ?_) AllReadyIn.nil)
                    go_simp
                    refine hK _ _ ?_
                    clear hK K
                    refine wpAnyIn_done (by kernel_rfl) ?_ _
                    exact HEND.out _ _ _ _ _ HO.out ((HK3.out.trans (keepsO_of_below _ hb10')).trans HF11.out.2) HF11.out.1
                  · go_simp
                    refine ⟨trivial, rfl, ((callsIn_wide (n := 0)).2 (HSW.out _ (HBW.out _ HK3.out).drew)).mono ?_⟩
                    rintro e w9 ⟨st, rfl, hst, hb9⟩
                    obtain rfl : st = ⟨(setT n L H).toArray⟩ := tx_inj (hst.trans (by simp [tx]))
                    clear hst
                    have hb9' : Below W3.heap.size W3 w9 := (Below.refl _ _).drew.trans hb9
                    have x1 : w9.cell? ⟨w1.heap.size, 0, none⟩ = some (.slice g' gn' gc') := (hb9'.cell (p := ⟨w1.heap.size, 0, none⟩) (by show w1.heap.size < _; omega)).trans y1
                    have hs9 : W3.heap.size ≤ w9.heap.size := hb9'.size
                    refine hK _ _ ?_
                    clear hK K
                    refine wpAnyIn_ready (rs := [0, 4]) (by kernel_rfl) (by simp) (AllReadyIn.cons rfl (fun K hK => ?_) (AllReadyIn.cons rfl (fun K hK => ?_) AllReadyIn.nil))
                    · go_simp
                      refine hK _ _ ?_
                      clear hK K
                      refine wpAnyIn_ready (rs := [4]) (by kernel_rfl) (by simp) (AllReadyIn.cons rfl (fun K hK => ?_) AllReadyIn.nil)
                      go_simp
                      have hb10 : Below w9.heap.size w9 (w9.alloc (.cells #[.string ⟨(setT n L H).toArray⟩] 9)) := (Below.refl _ _).alloc (Nat.le_refl _) _
                      have hb10' : Below W3.heap.size W3 (w9.alloc (.cells #[.string ⟨(setT n L H).toArray⟩] 9)) := hb9'.trans (hb10.mono hs9)
                      have x2 : (w9.alloc (.cells #[.string ⟨(setT n L H).toArray⟩] 9)).cell? ⟨w1.heap.size, 0, none⟩ = some (.slice g' gn' gc') := (hb10'.cell (p := ⟨w1.heap.size, 0, none⟩) (by show w1.heap.size < _; omega)).trans y1
                      refine hK _ _ ?_
                      clear hK K
                      refine wpAnyIn_ready (rs := [5]) (by kernel_rfl) (by simp) (AllReadyIn.cons rfl (fun K hK => ?_) AllReadyIn.nil)
                      refine opIn_word (Bw := w1.heap.size) (base := W0.heap.size + 2) (ws := wordsL pre ++ [wordS kind.toNat]) (g := g') (n := gn') (c := gc') (b := w9.heap.size) (u := ⟨(setT n L H).toArray⟩) _ _ rfl (by go_simp) (by go_simp) (by simp [go_sem]) (HWD3.out.below hb10') (by simp only [List.length_append, List.length_cons, List.length_nil]; have := HLW.out; omega) (by omega) (by have := hb10'.size; omega) ?_
                      intro g'' gn'' gc'' w11 c11 f11 HF11
                      refine hK _ _ ?_
                      clear hK K
                      refine wpAnyIn_ready (rs := [6]) (by kernel_rfl) (by simp) (AllReadyIn.cons rfl (fun K hK => ?_) AllReadyIn.nil)
                      go_simp
                      refine hK _ _ ?_
                      clear hK K
                      refine wpAnyIn_done (by kernel_rfl) ?_ _
                      exact HEND.out _ _ _ _ _ HO.out ((HK3.out.trans (keepsO_of_below _ hb10')).trans HF11.out.2) HF11.out.1
                    · go_simp
                      have hb10 : Below w9.heap.size w9 (w9.alloc (.cells #[.string ⟨(setT n L H).toArray⟩] 9)) := (Below.refl _ _).alloc (Nat.le_refl _) _
                      have hb10' : Below W3.heap.size W3 (w9.alloc (.cells #[.string ⟨(setT n L H).toArray⟩] 9)) := hb9'.trans (hb10.mono hs9)
                      have x2 : (w9.alloc (.cells #[.string ⟨(setT n L H).toArray⟩] 9)).cell? ⟨w1.heap.size, 0, none⟩ = some (.slice g' gn' gc') := (hb10'.cell (p := ⟨w1.heap.size, 0, none⟩) (by show w1.heap.size < _; omega)).trans y1
                      refine hK _ _ ?_
                      clear hK K
                      refine wpAnyIn_ready (rs := [0]) (by kernel_rfl) (by simp) (AllReadyIn.cons rfl (fun K hK => ?_) AllReadyIn.nil)
                      go_simp
                      refine hK _ _ ?_
                      clear hK K
                      refine wpAnyIn_ready (rs := [5]) (by kernel_rfl) (by simp) (AllReadyIn.cons rfl (fun K hK => ?_) AllReadyIn.nil)
                      refine opIn_word (Bw := w1.heap.size) (base := W0.heap.size + 2) (ws := wordsL pre ++ [wordS kind.toNat]) (g := g') (n := gn') (c := gc') (b := w9.heap.size) (u := ⟨(setT n L H).toArray⟩) _ _ rfl (by go_simp) (by go_simp) (by simp [go_sem]) (HWD3.out.below hb10') (by simp only [List.length_append, List.length_cons, List.length_nil]; have := HLW.out; omega) (by omega) (by have := hb10'.size; omega) ?_
                      intro g'' gn'' gc'' w11 c11 f11 HF11
                      refine hK _ _ ?_
                      clear hK K
                      refine wpAnyIn_ready (rs := [6]) (by kernel_rfl) (by simp) (AllReadyIn.cons rfl (fun K hK => ?_) AllReadyIn.nil)
                      go_simp
                      refine hK _ _ ?_
                      clear hK K
                      refine wpAnyIn_done (by kernel_rfl) ?_ _
                      exact HEND.out _ _ _ _ _ HO.out ((HK3.out.trans (keepsO_of_below _ hb10')).trans HF11.out.2) HF11.out.1
              · have hk1 : (kind == 1) = false := by simpa using hone
                have HO : Hid _ := HNOT.out hone
                clear hone
                gi_wp2_with fail
                exact HEND.out _ _ _ _ _ HO.out HK3.out HWD3.out
            · go_simp
              have hb7 : Below w6.heap.size w6 (w6.alloc (.cells #[.string (wordS kind.toNat)] 9)) := (Below.refl _ _).alloc (Nat.le_refl _) _
              have hb7' : Below W2.heap.size W2 (w6.alloc (.cells #[.string (wordS kind.toNat)] 9)) := hb6'.trans (hb7.mono hs6)
              have x2 : (w6.alloc (.cells #[.string (wordS kind.toNat)] 9)).cell? ⟨w1.heap.size, 0, none⟩ = some (.slice g gn gc) := (hb7'.cell (p := ⟨w1.heap.size, 0, none⟩) (by show w1.heap.size < _; omega)).trans z1
              refine hK _ _ ?_
              clear hK K
              refine wpAnyIn_ready (rs := [0]) (by kernel_rfl) (by simp) (AllReadyIn.cons rfl (fun K hK => ?_) AllReadyIn.nil)
              go_simp
              refine hK _ _ ?_
              clear hK K
              refine wpAnyIn_ready (rs := [6]) (by kernel_rfl) (by simp) (AllReadyIn.cons rfl (fun K hK => ?_) AllReadyIn.nil)
              refine opIn_word (Bw := w1.heap.size) (base := W0.heap.size + 2) (ws := wordsL pre) (g := g) (n := gn) (c := gc) (b := w6.heap.size) (u := wordS kind.toNat) _ _ rfl (by go_simp) (by go_simp) (by simp [go_sem]) (HWD.out.below hb7') (by have := HLW.out; omega) (by omega) (by have := hb7'.size; omega) ?_
              intro g' gn' gc' w8 c8 f8 HF8
              refine hK _ _ ?_
              clear hK K
              refine wpAnyIn_ready (rs := [7]) (by kernel_rfl) (by simp) (AllReadyIn.cons rfl (fun K hK => ?_) AllReadyIn.nil)
              go_simp
              refine hK _ _ ?_
              clear hK K
              refine wpAnyIn_done (by kernel_rfl) ?_ _
              have HK3 : Hid (KeepsO (XW w1.heap.size (W0.heap.size + 2)) W2 (w8.setCell ⟨w1.heap.size, 0, none⟩ (.slice g' gn' gc'))) := (keepsO_of_below _ hb7').trans HF8.out.2
              obtain ⟨W3, hW3⟩ : ∃ W3, w8.setCell ⟨w1.heap.size, 0, none⟩ (.slice g' gn' gc') = W3 := ⟨_, rfl⟩
              rw [hW3] at HF8 HK3 ⊢
              have hbox3 : W3.heap[W.heap.size]? = some (.cells #[.int .i64 kind, .slice a n cap, .slice a' m cap'] 31 (0, 0)) := HK3.out.same _ _ HBOX.out (fun hx => by
                rcases hx with hx | ⟨_, cs, fr, hx⟩
                · omega
                · cases hx)
              have y3 := cell_box (i := 0) hbox3 rfl
              have y4 := cell_box (i := 1) hbox3 rfl
              have y1 := HF8.out.1.1
              have hs3 : W2.heap.size ≤ W3.heap.size := HK3.out.size
              have HWD3 : Hid (Wd w1.heap.size (W0.heap.size + 2) (wordsL pre ++ [wordS kind.toNat]) W3 g' gn' gc') := HF8.out.1
              clear hW3 hbox3 HF8 c8 f8 x1 x2 z1 z3 z4 hb6 hb6' hb7 hb7' hs6
              by_cases hone : kind = 1
              · have hk1 : (kind == 1) = true := by simpa using hone
                have HO : Hid _ := HONE.out hone
                clear hone
                gi_wp2_with fail
                refine wpIn_region_any_round hmix (by kernel_rfl) ?_
                refine wpAnyIn_take (i := 1) (v := .pointer (some ⟨W.heap.size, 1, none⟩)) rfl rfl (by kernel_rfl) (by kernel_rfl) (by kernel_rfl) (fun _ _ _ h => h) ⟨Or.inl ⟨by rfl, fun w => by go_simp⟩, fun _ => rfl⟩ ?_
                refine wpAnyIn_ready (rs := [0, 2]) (by kernel_rfl) (by simp) (AllReadyIn.cons rfl (fun K hK => ?_) (AllReadyIn.cons rfl (fun K hK => ?_) AllReadyIn.nil))
                · go_simp
                  refine hK _ _ ?_
                  clear hK K
                  refine wpAnyIn_ready (rs := [2]) (by kernel_rfl) (by simp) (AllReadyIn.cons rfl (fun K hK => ?_) AllReadyIn.nil)
                  go_simp
                  refine hK _ _ ?_
                  clear hK K
                  refine wpAnyIn_ready (rs := [3]) (by kernel_rfl) (by simp) (AllReadyIn.cons rfl (fun K hK => ?_) AllReadyIn.nil)
                  go_simp
                  refine ⟨trivial, rfl, ((callsIn_wide (n := 0)).2 (HSW.out _ (HBW.out _ HK3.out).drew)).mono ?_⟩
                  rintro e w9 ⟨st, rfl, hst, hb9⟩
                  obtain rfl : st = ⟨(setT n L H).toArray⟩ := tx_inj (hst.trans (by simp [tx]))
                  clear hst
                  have hb9' : Below W3.heap.size W3 w9 := (Below.refl _ _).drew.trans hb9
                  have x1 : w9.cell? ⟨w1.heap.size, 0, none⟩ = some (.slice g' gn' gc') := (hb9'.cell (p := ⟨w1.heap.size, 0, none⟩) (by show w1.heap.size < _; omega)).trans y1
                  have hs9 : W3.heap.size ≤ w9.heap.size := hb9'.size
                  refine hK _ _ ?_
                  clear hK K
                  refine wpAnyIn_ready (rs := [4]) (by kernel_rfl) (by simp) (AllReadyIn.cons rfl (fun K hK => ?_) AllReadyIn.nil)
                  go_simp
                  have hb10 : Below w9.heap.size w9 (w9.alloc (.cells #[.string ⟨(setT n L H).toArray⟩] 9)) := (Below.refl _ _).alloc (Nat.le_refl _) _
                  have hb10' : Below W3.heap.size W3 (w9.alloc (.cells #[.string ⟨(setT n L H).toArray⟩] 9)) := hb9'.trans (hb10.mono hs9)
                  have x2 : (w9.alloc (.cells #[.string ⟨(setT n L H).toArray⟩] 9)).cell? ⟨w1.heap.size, 0, none⟩ = some (.slice g' gn' gc') := (hb10'.cell (p := ⟨w1.heap.size, 0, none⟩) (by show w1.heap.size < _; omega)).trans y1
                  refine hK _ _ ?_
                  clear hK K
                  refine wpAnyIn_ready (rs := [5]) (by kernel_rfl) (by simp) (AllReadyIn.cons rfl (fun K hK => ?_) AllReadyIn.nil)
                  refine opIn_word (Bw := w1.heap.size) (base := W0.heap.size + 2) (ws := wordsL pre ++ [wordS kind.toNat]) (g := g') (n := gn') (c := gc') (b := w9.heap.size) (u := ⟨(setT n L H).toArray⟩) _ _ rfl (by go_simp) (by go_simp) (by simp [go_sem]) (HWD3.out.below hb10') (by simp only [List.length_append, List.length_cons, List.length_nil]; have := HLW.out; omega) (by omega) (by have := hb10'.size; omega) ?_
                  intro g'' gn'' gc'' w11 c11 f11 HF11
                  refine hK _ _ ?_
                  clear hK K
                  refine wpAnyIn_ready (rs := [6]) (by kernel_rfl) (by simp) (AllReadyIn.cons rfl (fun K hK => ?_) AllReadyIn.nil)
                  go_simp
                  refine hK _ _ ?_
                  clear hK K
                  refine wpAnyIn_done (by kernel_rfl) ?_ _
                  exact HEND.out _ _ _ _ _ HO.out ((HK3.out.trans (keepsO_of_below _ hb10')).trans HF11.out.2) HF11.out.1
                · go_simp
                  refine hK _ _ ?_
                  clear hK K
                  refine wpAnyIn_ready (rs := [0, 3]) (by kernel_rfl) (by simp) (AllReadyIn.cons rfl (fun K hK => ?_) (AllReadyIn.cons rfl (fun K hK => ?_) AllReadyIn.nil))
                  · go_simp
                    refine hK _ _ ?_
                    clear hK K
                    refine wpAnyIn_ready (rs := [3]) (by kernel_rfl) (by simp) (AllReadyIn.cons rfl (fun K hK => ?_) AllReadyIn.nil)
                    go_simp
                    refine ⟨trivial, rfl, ((callsIn_wide (n := 0)).2 (HSW.out _ (HBW.out _ HK3.out).drew)).mono ?_⟩
                    rintro e w9 ⟨st, rfl, hst, hb9⟩
                    obtain rfl : st = ⟨(setT n L H).toArray⟩ := tx_inj (hst.trans (by simp [tx]))
                    clear hst
                    have hb9' : Below W3.heap.size W3 w9 := (Below.refl _ _).drew.trans hb9
                    have x1 : w9.cell? ⟨w1.heap.size, 0, none⟩ = some (.slice g' gn' gc') := (hb9'.cell (p := ⟨w1.heap.size, 0, none⟩) (by show w1.heap.size < _; omega)).trans y1
                    have hs9 : W3.heap.size ≤ w9.heap.size := hb9'.size
                    refine hK _ _ ?_
                    clear hK K
                    refine wpAnyIn_ready (rs := [4]) (by kernel_rfl) (by simp) (AllReadyIn.cons rfl (fun K hK => ?_) AllReadyIn.nil)
                    go_simp
                    have hb10 : Below w9.heap.size w9 (w9.alloc (.cells #[.string ⟨(setT n L H).toArray⟩] 9)) := (Below.refl _ _).alloc (Nat.le_refl _) _
                    have hb10' : Below W3.heap.size W3 (w9.alloc (.cells #[.string ⟨(setT n L H).toArray⟩] 9)) := hb9'.trans (hb10.mono hs9)
                    have x2 : (w9.alloc (.cells #[.string ⟨(setT n L H).toArray⟩] 9)).cell? ⟨w1.heap.size, 0, none⟩ = some (.slice g' gn' gc') := (hb10'.cell (p := ⟨w1.heap.size, 0, none⟩) (by show w1.heap.size < _; omega)).trans y1
                    refine hK _ _ ?_
                    clear hK K
                    refine wpAnyIn_ready (rs := [5]) (by kernel_rfl) (by simp) (AllReadyIn.cons rfl (fun K hK => ?_) AllReadyIn.nil)
                    refine opIn_word (Bw := w1.heap.size) (base := W0.heap.size + 2) (ws := wordsL pre ++ [wordS kind.toNat]) (g := g') (n := gn') (c := gc') (b := w9.heap.size) (u := ⟨(setT n L H).toArray⟩) _ _ rfl (by go_simp) (by go_simp) (by simp [go_sem]) (HWD3.out.below hb10') (by simp only [List.length_append, List.length_cons, List.length_nil]; have := HLW.out; omega) (by omega) (by have := hb10'.size; omega) ?_
                    intro g'' gn'' gc'' w11 c11 f11 HF11
                    refine hK _ _ ?_
                    clear hK K
                    refine wpAnyIn_ready (rs := [6]) (by kernel_rfl) (by simp) (AllReadyIn.cons rfl (fun K hK => ?_) AllReadyIn.nil)
                    go_simp
                    refine hK _ _ ?_
                    clear hK K
                    refine wpAnyIn_done (by kernel_rfl) ?_ _
                    exact HEND.out _ _ _ _ _ HO.out ((HK3.out.trans (keepsO_of_below _ hb10')).trans HF11.out.2) HF11.out.1
                  · go_simp
                    refine ⟨trivial, rfl, ((callsIn_wide (n := 0)).2 (HSW.out _ (HBW.out _ HK3.out).drew)).mono ?_⟩
                    rintro e w9 ⟨st, rfl, hst, hb9⟩
                    obtain rfl : st = ⟨(setT n L H).toArray⟩ := tx_inj (hst.trans (by simp [tx]))
                    clear hst
                    have hb9' : Below W3.heap.size W3 w9 := (Below.refl _ _).drew.trans hb9
                    have x1 : w9.cell? ⟨w1.heap.size, 0, none⟩ = some (.slice g' gn' gc') := (hb9'.cell (p := ⟨w1.heap.size, 0, none⟩) (by show w1.heap.size < _; omega)).trans y1
                    have hs9 : W3.heap.size ≤ w9.heap.size := hb9'.size
                    refine hK _ _ ?_
                    clear hK K
                    refine wpAnyIn_ready (rs := [0, 4]) (by kernel_rfl) (by simp) (AllReadyIn.cons rfl (fun K hK => ?_) (AllReadyIn.cons rfl (fun K hK => ?_) AllReadyIn.nil))
                    · go_simp
                      refine hK _ _ ?_
                      clear hK K
                      refine wpAnyIn_ready (rs := [4]) (by kernel_rfl) (by simp) (AllReadyIn.cons rfl (fun K hK => ?_) AllReadyIn.nil)
                      go_simp
                      have hb10 : Below w9.heap.size w9 (w9.alloc (.cells #[.string ⟨(setT n L H).toArray⟩] 9)) := (Below.refl _ _).alloc (Nat.le_refl _) _
                      have hb10' : Below W3.heap.size W3 (w9.alloc (.cells #[.string ⟨(setT n L H).toArray⟩] 9)) := hb9'.trans (hb10.mono hs9)
                      have x2 : (w9.alloc (.cells #[.string ⟨(setT n L H).toArray⟩] 9)).cell? ⟨w1.heap.size, 0, none⟩ = some (.slice g' gn' gc') := (hb10'.cell (p := ⟨w1.heap.size, 0, none⟩) (by show w1.heap.size < _; omega)).trans y1
                      refine hK _ _ ?_
                      clear hK K
                      refine wpAnyIn_ready (rs := [5]) (by kernel_rfl) (by simp) (AllReadyIn.cons rfl (fun K hK => ?_) AllReadyIn.nil)
                      refine opIn_word (Bw := w1.heap.size) (base := W0.heap.size + 2) (ws := wordsL pre ++ [wordS kind.toNat]) (g := g') (n := gn') (c := gc') (b := w9.heap.size) (u := ⟨(setT n L H).toArray⟩) _ _ rfl (by go_simp) (by go_simp) (by simp [go_sem]) (HWD3.out.below hb10') (by simp only [List.length_append, List.length_cons, List.length_nil]; have := HLW.out; omega) (by omega) (by have := hb10'.size; omega) ?_
                      intro g'' gn'' gc'' w11 c11 f11 HF11
                      refine hK _ _ ?_
                      clear hK K
                      refine wpAnyIn_ready (rs := [6]) (by kernel_rfl) (by simp) (AllReadyIn.cons rfl (fun K hK => ?_) AllReadyIn.nil)
                      go_simp
                      refine hK _ _ ?_
                      clear hK K
                      refine wpAnyIn_done (by kernel_rfl) ?_ _
                      exact HEND.out _ _ _ _ _ HO.out ((HK3.out.trans (keepsO_of_below _ hb10')).trans HF11.out.2) HF11.out.1
                    · go_simp
                      have hb10 : Below w9.heap.size w9 (w9.alloc (.cells #[.string ⟨(setT n L H).toArray⟩] 9)) := (Below.refl _ _).alloc (Nat.le_refl _) _
                      have hb10' : Below W3.heap.size W3 (w9.alloc (.cells #[.string ⟨(setT n L H).toArray⟩] 9)) := hb9'.trans (hb10.mono hs9)
                      have x2 : (w9.alloc (.cells #[.string ⟨(setT n L H).toArray⟩] 9)).cell? ⟨w1.heap.size, 0, none⟩ = some (.slice g' gn' gc') := (hb10'.cell (p := ⟨w1.heap.size, 0, none⟩) (by show w1.heap.size < _; omega)).trans y1
                      refine hK _ _ ?_
                      clear hK K
                      refine wpAnyIn_ready (rs := [0]) (by kernel_rfl) (by simp) (AllReadyIn.cons rfl (fun K hK => ?_) AllReadyIn.nil)
                      go_simp
                      refine hK _ _ ?_
                      clear hK K
                      refine wpAnyIn_ready (rs := [5]) (by kernel_rfl) (by simp) (AllReadyIn.cons rfl (fun K hK => ?_) AllReadyIn.nil)
                      refine opIn_word (Bw := w1.heap.size) (base := W0.heap.size + 2) (ws := wordsL pre ++ [wordS kind.toNat]) (g := g') (n := gn') (c := gc') (b := w9.heap.size) (u := ⟨(setT n L H).toArray⟩) _ _ rfl (by go_simp) (by go_simp) (by simp [go_sem]) (HWD3.out.below hb10') (by simp only [List.length_append, List.length_cons, List.length_nil]; have := HLW.out; omega) (by omega) (by have := hb10'.size; omega) ?_
                      intro g'' gn'' gc'' w11 c11 f11 HF11
                      refine hK _ _ ?_
                      clear hK K
                      refine wpAnyIn_ready (rs := [6]) (by kernel_rfl) (by simp) (AllReadyIn.cons rfl (fun K hK => ?_) AllReadyIn.nil)
                      go_simp
                      refine hK _ _ ?_
                      clear hK K
                      refine wpAnyIn_done (by kernel_rfl) ?_ _
                      exact HEND.out _ _ _ _ _ HO.out ((HK3.out.trans (keepsO_of_below _ hb10')).trans HF11.out.2) HF11.out.1
              · have hk1 : (kind == 1) = false := by simpa using hone
                have HO : Hid _ := HNOT.out hone
                clear hone
                gi_wp2_with fail
                exact HEND.out _ _ _ _ _ HO.out HK3.out HWD3.out
  · have hf' : okR S = false := Bool.eq_false_iff.2 hf
    rw [hf'] at H1
    have HR : Hid (textR S = []) := by simp [Hid, textR, hf']
    clear hf hf'
    refine calls_of_wpAt Tryd.func24 rfl ?_
    simp only [Tryd.ntmps24, List.size_toArray, List.length_cons, List.length_nil, Nat.reduceAdd, Nat.reduceSub, Array.replicate_succ, Array.replicate_zero, List.push_toArray, List.append_toArray, List.nil_append, List.cons_append]
    refine wpAt_seq (wpAt_of_wp ?_)
    go_wp2_with fail
    refine wpAt_seq (wpAt_of_wp ?_)
    go_wp2_with fail
    refine H1.out.mono ?_
    rintro e w1 ⟨rfl, hb1⟩
    go_wp2_with fail
    exact ⟨.string ⟨#[]⟩, by simp [results, Tryd.results24, go_sem], by rw [HR.out], hB0.trans (hb1.mono hB0.size)⟩

end Go.Proofs.YtjaaokclpclnaaaDoor

