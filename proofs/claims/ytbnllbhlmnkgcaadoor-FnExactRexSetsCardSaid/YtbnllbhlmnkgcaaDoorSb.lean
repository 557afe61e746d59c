/- the walk of impl.RexSets -/
import Derived.Test.YtbnllbhlmnkgcaaDoorSa
import Derived.Test.YtbnllbhlmnkgcaaDoorTo
namespace Go.Proofs.YtbnllbhlmnkgcaaDoor
open Go.RowKit Go.Shelf
set_option linter.unusedVariables false
set_option linter.unusedSimpArgs false

theorem KeepsO.trans_new {X : Nat → Obj → Prop} {Y : Nat → Prop} {A B C : World} (h : KeepsO X A B) (k : Keeps Y B C) (hY : ∀ i, Y i → A.heap.size ≤ i) : KeepsO X A C :=
  ⟨k.os.trans h.os, k.tape.trans h.tape, k.output.trans h.output, Nat.le_trans h.size k.size, fun i o hi hx => by
    have hlt := (Array.getElem?_eq_some_iff.1 hi).1
    exact (k.block i (Nat.lt_of_lt_of_le hlt h.size) (fun e => by have := hY i e; omega)).trans (h.same i o hi hx)⟩

attribute [local go_sem] Oper.semAt_some

/-- what holds between the rounds -/
def SI (Bw z : Nat) (W0 : World) (pre : List Part) (W : World) : Prop := KeepsO (XS Bw (z + 2)) W0 W ∧ ∃ vs g n c, Wo Bw (z + 2) vs (setsP pre) W g n c
def setsR (S : Sh) : List SetV := if okR S then setsS S else []
/-- what comes of RexSets: sets of one's own -/
def SetsRes (S : Sh) (w : World) (e : Ending) (w' : World) : Prop := ∃ g n c vs, e = .returned (.slice g n c) ∧ Lo w' w.heap.size (.slice g n c) vs (setsR S) ∧ Below w.heap.size w w'
theorem setsP_len (xs : List Part) : (setsP xs).length ≤ xs.length := by
  induction xs with
  | nil => simp [setsP]
  | cons x xs ih =>
    have h1 : (partS x.2.1).length ≤ 1 := by simp only [partS]; split <;> simp
    simp only [setsP, List.flatMap_cons, List.length_append, List.length_cons] at ih ⊢
    omega
theorem cell_box {W : World} {b : Nat} {cs : Array Value} {t : TypeId} {i : Nat} {v : Value} (h : W.heap[b]? = some (.cells cs t (0, 0))) (hv : cs[i]? = some v) : W.cell? ⟨b, i, none⟩ = some v := by
  simp [World.cell?, h, hv]

set_option maxRecDepth 100000 in
set_option maxHeartbeats 4000000 in
theorem implRexSets_any (S : Sh) (M : Mx) (w : World) (t : TypeId) (ea : Addr) (hE : Err w t ea) (hT : In AnyB w S M) (hcnt : cnt S ≤ 1048576) :
    Calls Tryd.prog 38 #[vx S M] w (SetsRes S w) := by
  obtain ⟨a, n, c, a', m, c', es, ek⟩ := hT.slices
  have hB0 : Below w.heap.size w (w.alloc (.cells #[.int .i64 S.kind, .slice a n c, .slice a' m c'] 26)) := (Below.refl _ _).alloc (Nat.le_refl _) _
  have H1 : Hid (Calls Tryd.prog 32 #[vx S M] (w.alloc (.cells #[.int .i64 S.kind, .slice a n c, .slice a' m c'] 26)) fun e w' => e = .returned (.bool (okR S)) ∧ Below (w.alloc (.cells #[.int .i64 S.kind, .slice a n c, .slice a' m c'] 26)).heap.size (w.alloc (.cells #[.int .i64 S.kind, .slice a n c, .slice a' m c'] 26)) w') :=
    implRexOk_any S M _ t ea (hE.below hB0) (hT.below hB0) hcnt
  have hv : vx S M = .agg #[.int .i64 S.kind, .slice a n c, .slice a' m c'] := by rw [vx, es, ek]
  have HK0 : Hid (M.sv = .slice a n c ∧ M.kv = .slice a' m c') := ⟨es, ek⟩
  have HT : Hid (In (· < w.heap.size) w S M) := hT.lt
  rw [hv] at H1 ⊢
  clear hv es ek hT hE
  by_cases hf : okR S = true
  · rw [hf] at H1
    have HR : Hid (setsR S = setsS S) := by simp [Hid, setsR, hf]
    have HF : Hid (okR S = true) := hf
    clear hf
    refine calls_of_wpAt Tryd.func38 rfl ?_
    simp only [Tryd.ntmps38, List.size_toArray, List.length_cons, List.length_nil, Nat.reduceAdd, Nat.reduceSub, Array.replicate_succ, Array.replicate_zero, List.push_toArray, List.append_toArray, List.nil_append, List.cons_append]
    refine wpAt_seq (wpAt_of_wp ?_)
    go_wp2_with fail
    refine wpAt_seq (wpAt_of_wp ?_)
    go_wp2_with fail
    refine H1.out.mono ?_
    rintro e w1 ⟨rfl, hb1⟩
    have hB1 := hB0.trans (hb1.mono hB0.size)
    have r0 : w1.cell? ⟨w.heap.size, 0, none⟩ = some (.int .i64 S.kind) := (hb1.cell (p := ⟨w.heap.size, 0, none⟩) (by simp)).trans (by simp [go_sem])
    have r1 : w1.cell? ⟨w.heap.size, 1, none⟩ = some (.slice a n c) := (hb1.cell (p := ⟨w.heap.size, 1, none⟩) (by simp)).trans (by simp [go_sem])
    have r2 : w1.cell? ⟨w.heap.size, 2, none⟩ = some (.slice a' m c') := (hb1.cell (p := ⟨w.heap.size, 2, none⟩) (by simp)).trans (by simp [go_sem])
    have hlt1 : w.heap.size < w1.heap.size := World.block_lt_of_cell? _ _ r0
    clear H1
    go_wp2_with fail
    refine wpAt_seq (wpAt_of_wp ?_)
    go_wp2_with fail
    refine wpAt_seq (wpAt_seq (wpAt_of_wp ?_))
    have q0 : (w1.alloc (.cells #[.slice none 0 0] 37)).cell? ⟨w.heap.size, 0, none⟩ = some (.int .i64 S.kind) := (((Below.refl _ _).alloc (Nat.le_refl _) _).cell (p := ⟨w.heap.size, 0, none⟩) hlt1).trans r0
    have q1 : (w1.alloc (.cells #[.slice none 0 0] 37)).cell? ⟨w.heap.size, 1, none⟩ = some (.slice a n c) := (((Below.refl _ _).alloc (Nat.le_refl _) _).cell (p := ⟨w.heap.size, 1, none⟩) hlt1).trans r1
    have q2 : (w1.alloc (.cells #[.slice none 0 0] 37)).cell? ⟨w.heap.size, 2, none⟩ = some (.slice a' m c') := (((Below.refl _ _).alloc (Nat.le_refl _) _).cell (p := ⟨w.heap.size, 2, none⟩) hlt1).trans r2
    go_wp2_with fail
    refine (partsOf_any _ S.kind a n c a' m c' rfl _).mono ?_
    rintro e w2 ⟨rfl, rfl⟩
    go_wp2_with fail
    refine wpAt_block ?_
    clear q0 q1 q2 r0 r1 r2
    have hb2 : Below w1.heap.size w1 ((w1.alloc (.cells #[.slice none 0 0] 37)).alloc (.cells #[.int .i64 S.kind, .slice a n c, .slice a' m c'] 26)) := ((Below.refl _ _).alloc (Nat.le_refl _) _).alloc (by simp) _
    have m0 : ((w1.alloc (.cells #[.slice none 0 0] 37)).alloc (.cells #[.int .i64 S.kind, .slice a n c, .slice a' m c'] 26)).cell? ⟨w1.heap.size, 0, none⟩ = some (.slice none 0 0) := by simp [go_sem]
    have f0 : ((w1.alloc (.cells #[.slice none 0 0] 37)).alloc (.cells #[.int .i64 S.kind, .slice a n c, .slice a' m c'] 26)).frozen? ⟨w1.heap.size, 0, none⟩ = false := by simp [go_sem]
    have hk : Kid ((w1.alloc (.cells #[.slice none 0 0] 37)).alloc (.cells #[.int .i64 S.kind, .slice a n c, .slice a' m c'] 26)) (w1.heap.size + 1) 0 S M := by
      refine ⟨by simp [go_sem], ?_, ?_⟩
      · rw [HK0.out.1]; simp [go_sem]
      · rw [HK0.out.2]; simp [go_sem]
    have hsz : ((w1.alloc (.cells #[.slice none 0 0] 37)).alloc (.cells #[.int .i64 S.kind, .slice a n c, .slice a' m c'] 26)).heap.size = w1.heap.size + 2 := by simp
    obtain ⟨W0, hW0⟩ : ∃ W0, ((w1.alloc (.cells #[.slice none 0 0] 37)).alloc (.cells #[.int .i64 S.kind, .slice a n c, .slice a' m c'] 26)) = W0 := ⟨_, rfl⟩
    rw [hW0] at hb2 m0 f0 hk hsz ⊢
    have hB2 := hB1.trans (hb2.mono hB1.size)
    have hT0 : In (· < w.heap.size) W0 S M := HT.out.below hB2
    have hseq := parts_seqK S M w.heap.size (w1.heap.size + 1) W0 (by omega) (by omega) hk hT0 hcnt
    have hparts := (okR_parts hT0).1 HF.out
    have hlen : (partsL S 0 M).length ≤ 24 := hparts.1
    have hX : ∀ k o, XS w1.heap.size (W0.heap.size + 2) k o → w.heap.size ≤ k ∧ (k < W0.heap.size ∨ ∀ cs fr, o ≠ .cells cs 26 fr) := fun k o h => by
      rcases h with rfl | ⟨h1, cs, fr, rfl⟩
      · exact ⟨by omega, .inl (by omega)⟩
      · exact ⟨by omega, .inr (fun cs' fr' e => by cases e)⟩
    clear hk hW0
    refine wpAt_rangeFunc_panK ⟨_, Tryd.func38⟩ (gf := 130) (lb := #[.pointer (some ⟨w1.heap.size + 1, 0, none⟩)]) rfl (enters_of Tryd.func130 (by kernel_rfl) rfl) hseq (fun _ => rfl) (by omega)
      (XS w1.heap.size (W0.heap.size + 2)) hX
      (SI w1.heap.size W0.heap.size W0)
      (fun _ _ => False)
      ?hI ⟨KeepsO.refl _ _, [], none, 0, 0, m0, f0, ⟨rfl, .inl ⟨rfl, rfl⟩⟩, fun i x s h => by simp at h, fun i j x y h => by simp at h⟩ ?round ?done (fun _ _ h => h.elim)
    case hI =>
      rintro s W W' ⟨h1, vs, g, gn, gc, h2⟩ hk
      exact ⟨h1.trans_new hk (fun i hi => hi.1), vs, g, gn, gc, h2.keeps hk (fun k hk => ⟨by omega, by omega⟩)⟩
    case done =>
      rintro W ⟨h1, vs, g, gn, gc, h2⟩ hD
      have hB3 := hB2.trans (h1.below (m := w.heap.size) (by omega) (fun k o e => (hX k o e).1))
      have hz : W0.heap.size < W.heap.size := (Array.getElem?_eq_some_iff.1 hD).1
      rw [sets_parts] at h2
      obtain ⟨h3, h4, h5⟩ := h2
      have H5 : Hid (Lo W (W0.heap.size + 2) (.slice g gn gc) vs (setsS S)) := h5
      clear h5
      refine wpAt_of_wp ?_
      go_wp2_with fail
      have HD : Hid (W.heap[W0.heap.size]? = some (.deferred (some []))) := hD
      rw [hsz] at hD
      refine ⟨by simp, .inl ⟨_, _, rfl, run_takeDeferred hD, ?_⟩⟩
      refine ⟨.slice g gn gc, by simp [results, Tryd.results38, go_sem], g, gn, gc, vs, rfl, ?_, ?_⟩
      · rw [HR.out]
        exact (H5.out.keep (fun k k1 k2 => World.putObj_heap_other (by omega))).mono (by omega)
      · exact hB3.trans (belowK_b (w := W0) (by omega) W _ _ _ (by omega) hD rfl rfl)
    case round =>
      rintro l pre ⟨d, S', M'⟩ W hl ⟨h1, vs, g, gn, gc, h2⟩ hlt hpre
      have hx : (d, S', M') ∈ partsL S 0 M := by
        obtain ⟨r, hr⟩ := hpre
        rw [← hr]; simp
      have hgood := (hparts.2 _ hx).2
      have hTx : In (· < w.heap.size) w S' M' := parts_in HT.out hx
      have hcx := parts_cnt hx
      have HLW : Hid ((setsP pre).length ≤ 24) := by
        have h1 := hpre.length_le
        have h2 := setsP_len pre
        simp at h1
        rw [Hid]; omega
      obtain ⟨kind, n, L, H, m, K, rfl, _⟩ := Sh.cases S'
      obtain ⟨sv, kv, Mk, rfl⟩ := Mx.cases M'
      obtain ⟨a, b, off, cap, a', b', off', cap', e1, hn, hs, hln, e2, hm, hlm, hk⟩ := hTx
      obtain rfl : sv = _ := e1
      obtain rfl : kv = _ := e2
      simp only [encP, vx, Sh.mk_kind, Mx.mk_sv, Mx.mk_kv]
      have HSP : Hid (∀ w', Below w.heap.size w w' → Sp w' b off n L H) := fun w' hb => hs.below hb
      have HGA : Hid ((0 < n → a = some ⟨b, off, none⟩) ∧ n ≤ 4194304) := ⟨fun h => (hn h).1, by simp only [cnt_mk] at hcx; omega⟩
      clear hgood hn hs hm hk hseq hpre hcx hparts m0 f0 hln hlm
      gi_wp2_with fail
      have hba : Below W.heap.size W (W.alloc (.cells #[.int .i64 kind, .slice a n cap, .slice a' m cap'] 26)) := (Below.refl _ _).alloc (Nat.le_refl _) _
      refine ⟨hba, fun W2 hK2 hs2 => ?_⟩
      have hwd2 : Wo w1.heap.size (W0.heap.size + 2) vs (setsP pre) W2 g gn gc := (h2.below hba).keeps hK2 (fun k hk => ⟨by omega, by omega⟩)
      have z1 := hwd2.1
      have HWD : Hid (Wo w1.heap.size (W0.heap.size + 2) vs (setsP pre) W2 g gn gc) := hwd2
      have hbox : W2.heap[W.heap.size]? = some (.cells #[.int .i64 kind, .slice a n cap, .slice a' m cap'] 26 (0, 0)) := (hK2.block W.heap.size (by simp) (by omega)).trans (World.alloc_heap_new W _)
      have z3 := cell_box (i := 0) hbox rfl
      have z4 := cell_box (i := 1) hbox rfl
      have hsz2 : W2.heap.size = W.heap.size + 1 := by rw [hs2]; simp
      have HK02 : Hid (KeepsO (XS w1.heap.size (W0.heap.size + 2)) W0 W2) := (h1.trans (keepsO_of_below _ hba)).trans_new hK2 (fun i hi => by omega)
      have HBOX : Hid _ := hbox
      have HBW : Hid (∀ W3, KeepsO (XS w1.heap.size (W0.heap.size + 2)) W2 W3 → Below w.heap.size w W3) := fun W3 h =>
        hB2.trans ((HK02.out.trans h).below (m := w.heap.size) (by omega) (fun k o e => (hX k o e).1))
      have HEND : Hid (∀ (W3 : World) (ss : List SetV) (vs' : List Value) (g' : Option Addr) (n' c' : Nat), setsP (pre ++ [(d, Sh.mk kind n L H m K, Mx.mk (.slice a n cap) (.slice a' m cap') Mk)]) = ss → KeepsO (XS w1.heap.size (W0.heap.size + 2)) W2 W3 → Wo w1.heap.size (W0.heap.size + 2) vs' ss W3 g' n' c' →
          KeepsO (XS w1.heap.size (W0.heap.size + 2)) W2 W3 ∧ (∀ k, W0.heap.size ≤ k → k < W0.heap.size + 2 → W3.heap[k]? = W2.heap[k]?) ∧ SI w1.heap.size W0.heap.size W0 (pre ++ [(d, Sh.mk kind n L H m K, Mx.mk (.slice a n cap) (.slice a' m cap') Mk)]) W3) := fun W3 ss vs' g' n' c' e h h' => by
        subst e
        refine ⟨h, fun k k1 k2 => h.block (by omega) (fun o ho hx => ?_), HK02.out.trans h, vs', g', n', c', h'⟩
        rcases hx with e | ⟨e, _⟩ <;> omega
      have HONE : Hid (kind = 1 → setsP (pre ++ [(d, Sh.mk kind n L H m K, Mx.mk (.slice a n cap) (.slice a' m cap') Mk)]) = setsP pre ++ [(n, L, H)]) := fun e => by
        rw [setsP_snoc]; subst e; simp [partS, Sh.mk]
      have HNOT : Hid (kind ≠ 1 → setsP (pre ++ [(d, Sh.mk kind n L H m K, Mx.mk (.slice a n cap) (.slice a' m cap') Mk)]) = setsP pre) := fun e => by
        rw [setsP_snoc]; simp [partS, Sh.mk, e]
      clear hK2 hs2 h1 h2 hba hwd2 hX hbox hx
      have hmix : Tryd.prog.follows .mixedOrders = true := by kernel_rfl
      by_cases hone : kind = 1
      · have hk1 : (kind == 1) = true := by simpa using hone
        have HO : Hid _ := HONE.out hone
        clear hone
        have HOWN : Hid (∀ (ug : Option Addr) (un uc : Nat) (w6 : World), w6.ownsRow W2.heap.size 77 2 (.slice ug un uc) n (cellsV (n, L, H)) → Below w6.heap.size w6 (w6.alloc (.cells #[.slice ug un uc] 23)) → (w6.alloc (.cells #[.slice ug un uc] 23)).ownsRow (W0.heap.size + 2) 77 2 (.slice ug un uc) n (cellsV (n, L, H))) := fun ug un uc w6 h hb =>
          own_below ⟨h.1, h.2.imp id (fun ⟨g, cap, cur, e1, e2, e3⟩ => ⟨g, cap, cur, e1, by omega, e3⟩)⟩ hb
        have HAP : Hid (∀ (ug : Option Addr) (un uc : Nat) (w6 : World), w6.ownsRow W2.heap.size 77 2 (.slice ug un uc) n (cellsV (n, L, H)) → ∀ (i : Nat) (y : Value), vs[i]? = some y → (Value.slice ug un uc).ownBlock = none ∨ (Value.slice ug un uc).ownBlock ≠ y.ownBlock) := fun ug un uc w6 h i y hy => by
          have hlo := HWD.out.2.2
          have hvl : vs.length = (setsP pre).length := by have := hlo.row.1; omega
          have hi : i < (setsP pre).length := by rw [← hvl]; exact (List.getElem?_eq_some_iff.1 hy).1
          have hy2 := hlo.sub i y _ hy (List.getElem?_eq_getElem hi)
          rcases h.2 with ⟨e, _⟩ | ⟨g0, cap0, cur0, e1, e2, _⟩
          · rw [e]; exact .inl rfl
          · rw [e1]
            refine .inr (fun e => ?_)
            rcases hy2.2 with ⟨e', _⟩ | ⟨g2, cap2, cur2, e1', _, e3', _⟩
            · rw [e'] at e; cases e
            · rw [e1'] at e
              have hg : g0 = g2 := Option.some.inj e
              have := (Array.getElem?_eq_some_iff.1 e3').1
              omega
        gi_wp2_with fail
        refine wpIn_region_any_round hmix (by kernel_rfl) ?_
        refine wpAnyIn_take (i := 1) (v := .pointer (some ⟨W.heap.size, 1, none⟩)) rfl rfl (by kernel_rfl) (by kernel_rfl) (by kernel_rfl) (fun _ _ _ h => h) ⟨Or.inl ⟨by rfl, fun w => by go_simp⟩, fun _ => rfl⟩ ?_
        refine wpAnyIn_ready (rs := [0, 2]) (by kernel_rfl) (by simp) (AllReadyIn.cons rfl (fun K hK => ?_) (AllReadyIn.cons rfl (fun K hK => ?_) AllReadyIn.nil))
        · go_simp
          refine hK _ _ ?_
          clear hK K
          refine wpAnyIn_ready (rs := [2]) (by kernel_rfl) (by simp) (AllReadyIn.cons rfl (fun K hK => ?_) AllReadyIn.nil)
          go_simp
          refine hK _ _ ?_
          clear hK K
          refine wpAnyIn_ready (rs := [3]) (by kernel_rfl) (by simp) (AllReadyIn.cons rfl (fun K hK => ?_) AllReadyIn.nil)
          refine opIn_copy (b := b) (off := off) (L := L) (H := H) (ga := a) (n := n) (cap := cap) _ _ rfl (by go_simp) (by go_simp) HGA.out.1 (HSP.out _ (HBW.out _ (KeepsO.refl _ _)).drew) HGA.out.2 ?_
          intro ug un uc w6 HU hb6
          have hb6' : Below W2.heap.size W2 w6 := (Below.refl _ _).drew.trans hb6
          have x1 : w6.cell? ⟨w1.heap.size, 0, none⟩ = some (.slice g gn gc) := (hb6'.cell (p := ⟨w1.heap.size, 0, none⟩) (by show w1.heap.size < _; omega)).trans z1
          have hs6 : W2.heap.size ≤ w6.heap.size := hb6'.size
          refine hK _ _ ?_
          clear hK K
          refine wpAnyIn_ready (rs := [4]) (by kernel_rfl) (by simp) (AllReadyIn.cons rfl (fun K hK => ?_) AllReadyIn.nil)
          go_simp
          have hb7 : Below w6.heap.size w6 (w6.alloc (.cells #[.slice ug un uc] 23)) := (Below.refl _ _).alloc (Nat.le_refl _) _
          have hb7' : Below W2.heap.size W2 (w6.alloc (.cells #[.slice ug un uc] 23)) := hb6'.trans (hb7.mono hs6)
          have x2 : (w6.alloc (.cells #[.slice ug un uc] 23)).cell? ⟨w1.heap.size, 0, none⟩ = some (.slice g gn gc) := (hb7'.cell (p := ⟨w1.heap.size, 0, none⟩) (by show w1.heap.size < _; omega)).trans z1
          refine hK _ _ ?_
          clear hK K
          refine wpAnyIn_ready (rs := [5]) (by kernel_rfl) (by simp) (AllReadyIn.cons rfl (fun K hK => ?_) AllReadyIn.nil)
          refine opIn_set (Bw := w1.heap.size) (base := W0.heap.size + 2) (vs := vs) (ss := setsP pre) (g := g) (n := gn) (c := gc) (b := w6.heap.size) (u := .slice ug un uc) (sv := (n, L, H)) _ _ rfl (by go_simp) (by go_simp) (by simp [go_sem]) rfl (HWD.out.below hb7') (by have := HLW.out; omega) (by omega) (by have := hb7'.size; omega) (HOWN.out _ _ _ _ HU.out hb7) (HAP.out _ _ _ _ HU.out) ?_
          intro g' gn' gc' w8 c8 f8 HF8
          refine hK _ _ ?_
          clear hK K
          refine wpAnyIn_ready (rs := [6]) (by kernel_rfl) (by simp) (AllReadyIn.cons rfl (fun K hK => ?_) AllReadyIn.nil)
          go_simp
          refine hK _ _ ?_
          clear hK K
          refine wpAnyIn_done (by kernel_rfl) ?_ _
          exact HEND.out _ _ _ _ _ _ HO.out ((keepsO_of_below _ hb7').trans HF8.out.2) HF8.out.1
        · go_simp
          refine hK _ _ ?_
          clear hK K
          refine wpAnyIn_ready (rs := [0, 3]) (by kernel_rfl) (by simp) (AllReadyIn.cons rfl (fun K hK => ?_) (AllReadyIn.cons rfl (fun K hK => ?_) AllReadyIn.nil))
          · go_simp
            refine hK _ _ ?_
            clear hK K
            refine wpAnyIn_ready (rs := [3]) (by kernel_rfl) (by simp) (AllReadyIn.cons rfl (fun K hK => ?_) AllReadyIn.nil)
            refine opIn_copy (b := b) (off := off) (L := L) (H := H) (ga := a) (n := n) (cap := cap) _ _ rfl (by go_simp) (by go_simp) HGA.out.1 (HSP.out _ (HBW.out _ (KeepsO.refl _ _)).drew) HGA.out.2 ?_
            intro ug un uc w6 HU hb6
            have hb6' : Below W2.heap.size W2 w6 := (Below.refl _ _).drew.trans hb6
            have x1 : w6.cell? ⟨w1.heap.size, 0, none⟩ = some (.slice g gn gc) := (hb6'.cell (p := ⟨w1.heap.size, 0, none⟩) (by show w1.heap.size < _; omega)).trans z1
            have hs6 : W2.heap.size ≤ w6.heap.size := hb6'.size
            refine hK _ _ ?_
            clear hK K
            refine wpAnyIn_ready (rs := [4]) (by kernel_rfl) (by simp) (AllReadyIn.cons rfl (fun K hK => ?_) AllReadyIn.nil)
            go_simp
            have hb7 : Below w6.heap.size w6 (w6.alloc (.cells #[.slice ug un uc] 23)) := (Below.refl _ _).alloc (Nat.le_refl _) _
            have hb7' : Below W2.heap.size W2 (w6.alloc (.cells #[.slice ug un uc] 23)) := hb6'.trans (hb7.mono hs6)
            have x2 : (w6.alloc (.cells #[.slice ug un uc] 23)).cell? ⟨w1.heap.size, 0, none⟩ = some (.slice g gn gc) := (hb7'.cell (p := ⟨w1.heap.size, 0, none⟩) (by show w1.heap.size < _; omega)).trans z1
            refine hK _ _ ?_
            clear hK K
            refine wpAnyIn_ready (rs := [5]) (by kernel_rfl) (by simp) (AllReadyIn.cons rfl (fun K hK => ?_) AllReadyIn.nil)
            refine opIn_set (Bw := w1.heap.size) (base := W0.heap.size + 2) (vs := vs) (ss := setsP pre) (g := g) (n := gn) (c := gc) (b := w6.heap.size) (u := .slice ug un uc) (sv := (n, L, H)) _ _ rfl (by go_simp) (by go_simp) (by simp [go_sem]) rfl (HWD.out.below hb7') (by have := HLW.out; omega) (by omega) (by have := hb7'.size; omega) (HOWN.out _ _ _ _ HU.out hb7) (HAP.out _ _ _ _ HU.out) ?_
            intro g' gn' gc' w8 c8 f8 HF8
            refine hK _ _ ?_
            clear hK K
            refine wpAnyIn_ready (rs := [6]) (by kernel_rfl) (by simp) (AllReadyIn.cons rfl (fun K hK => ?_) AllReadyIn.nil)
            go_simp
            refine hK _ _ ?_
            clear hK K
            refine wpAnyIn_done (by kernel_rfl) ?_ _
            exact HEND.out _ _ _ _ _ _ HO.out ((keepsO_of_below _ hb7').trans HF8.out.2) HF8.out.1
          · refine opIn_copy (b := b) (off := off) (L := L) (H := H) (ga := a) (n := n) (cap := cap) _ _ rfl (by go_simp) (by go_simp) HGA.out.1 (HSP.out _ (HBW.out _ (KeepsO.refl _ _)).drew) HGA.out.2 ?_
            intro ug un uc w6 HU hb6
            have hb6' : Below W2.heap.size W2 w6 := (Below.refl _ _).drew.trans hb6
            have x1 : w6.cell? ⟨w1.heap.size, 0, none⟩ = some (.slice g gn gc) := (hb6'.cell (p := ⟨w1.heap.size, 0, none⟩) (by show w1.heap.size < _; omega)).trans z1
            have hs6 : W2.heap.size ≤ w6.heap.size := hb6'.size
            refine hK _ _ ?_
            clear hK K
            refine wpAnyIn_ready (rs := [0, 4]) (by kernel_rfl) (by simp) (AllReadyIn.cons rfl (fun K hK => ?_) (AllReadyIn.cons rfl (fun K hK => ?_) AllReadyIn.nil))
            · go_simp
              refine hK _ _ ?_
              clear hK K
              refine wpAnyIn_ready (rs := [4]) (by kernel_rfl) (by simp) (AllReadyIn.cons rfl (fun K hK => ?_) AllReadyIn.nil)
              go_simp
              have hb7 : Below w6.heap.size w6 (w6.alloc (.cells #[.slice ug un uc] 23)) := (Below.refl _ _).alloc (Nat.le_refl _) _
              have hb7' : Below W2.heap.size W2 (w6.alloc (.cells #[.slice ug un uc] 23)) := hb6'.trans (hb7.mono hs6)
              have x2 : (w6.alloc (.cells #[.slice ug un uc] 23)).cell? ⟨w1.heap.size, 0, none⟩ = some (.slice g gn gc) := (hb7'.cell (p := ⟨w1.heap.size, 0, none⟩) (by show w1.heap.size < _; omega)).trans z1
              refine hK _ _ ?_
              clear hK K
              refine wpAnyIn_ready (rs := [5]) (by kernel_rfl) (by simp) (AllReadyIn.cons rfl (fun K hK => ?_) AllReadyIn.nil)
              refine opIn_set (Bw := w1.heap.size) (base := W0.heap.size + 2) (vs := vs) (ss := setsP pre) (g := g) (n := gn) (c := gc) (b := w6.heap.size) (u := .slice ug un uc) (sv := (n, L, H)) _ _ rfl (by go_simp) (by go_simp) (by simp [go_sem]) rfl (HWD.out.below hb7') (by have := HLW.out; omega) (by omega) (by have := hb7'.size; omega) (HOWN.out _ _ _ _ HU.out hb7) (HAP.out _ _ _ _ HU.out) ?_
              intro g' gn' gc' w8 c8 f8 HF8
              refine hK _ _ ?_
              clear hK K
              refine wpAnyIn_ready (rs := [6]) (by kernel_rfl) (by simp) (AllReadyIn.cons rfl (fun K hK => ?_) AllReadyIn.nil)
              go_simp
              refine hK _ _ ?_
              clear hK K
              refine wpAnyIn_done (by kernel_rfl) ?_ _
              exact HEND.out _ _ _ _ _ _ HO.out ((keepsO_of_below _ hb7').trans HF8.out.2) HF8.out.1
            · go_simp
              have hb7 : Below w6.heap.size w6 (w6.alloc (.cells #[.slice ug un uc] 23)) := (Below.refl _ _).alloc (Nat.le_refl _) _
              have hb7' : Below W2.heap.size W2 (w6.alloc (.cells #[.slice ug un uc] 23)) := hb6'.trans (hb7.mono hs6)
              have x2 : (w6.alloc (.cells #[.slice ug un uc] 23)).cell? ⟨w1.heap.size, 0, none⟩ = some (.slice g gn gc) := (hb7'.cell (p := ⟨w1.heap.size, 0, none⟩) (by show w1.heap.size < _; omega)).trans z1
              refine hK _ _ ?_
              clear hK K
              refine wpAnyIn_ready (rs := [0]) (by kernel_rfl) (by simp) (AllReadyIn.cons rfl (fun K hK => ?_) AllReadyIn.nil)
              go_simp
              refine hK _ _ ?_
              clear hK K
              refine wpAnyIn_ready (rs := [5]) (by kernel_rfl) (by simp) (AllReadyIn.cons rfl (fun K hK => ?_) AllReadyIn.nil)
              refine opIn_set (Bw := w1.heap.size) (base := W0.heap.size + 2) (vs := vs) (ss := setsP pre) (g := g) (n := gn) (c := gc) (b := w6.heap.size) (u := .slice ug un uc) (sv := (n, L, H)) _ _ rfl (by go_simp) (by go_simp) (by simp [go_sem]) rfl (HWD.out.below hb7') (by have := HLW.out; omega) (by omega) (by have := hb7'.size; omega) (HOWN.out _ _ _ _ HU.out hb7) (HAP.out _ _ _ _ HU.out) ?_
              intro g' gn' gc' w8 c8 f8 HF8
              refine hK _ _ ?_
              clear hK K
              refine wpAnyIn_ready (rs := [6]) (by kernel_rfl) (by simp) (AllReadyIn.cons rfl (fun K hK => ?_) AllReadyIn.nil)
              go_simp
              refine hK _ _ ?_
              clear hK K
              refine wpAnyIn_done (by kernel_rfl) ?_ _
              exact HEND.out _ _ _ _ _ _ HO.out ((keepsO_of_below _ hb7').trans HF8.out.2) HF8.out.1
      · have hk1 : (kind == 1) = false := by simpa using hone
        have HO : Hid _ := HNOT.out hone
        clear hone
        gi_wp2_with fail
        exact HEND.out _ _ _ _ _ _ HO.out (KeepsO.refl _ _) HWD.out
  · have hf' : okR S = false := Bool.eq_false_iff.2 hf
    rw [hf'] at H1
    have HR : Hid (setsR S = []) := by simp [Hid, setsR, hf']
    clear hf hf'
    refine calls_of_wpAt Tryd.func38 rfl ?_
    simp only [Tryd.ntmps38, List.size_toArray, List.length_cons, List.length_nil, Nat.reduceAdd, Nat.reduceSub, Array.replicate_succ, Array.replicate_zero, List.push_toArray, List.append_toArray, List.nil_append, List.cons_append]
    refine wpAt_seq (wpAt_of_wp ?_)
    go_wp2_with fail
    refine wpAt_seq (wpAt_of_wp ?_)
    go_wp2_with fail
    refine H1.out.mono ?_
    rintro e w1 ⟨rfl, hb1⟩
    go_wp2_with fail
    exact ⟨.slice none 0 0, by simp [results, Tryd.results38, go_sem], none, 0, 0, [], rfl, by rw [HR.out]; exact ⟨⟨rfl, .inl ⟨rfl, rfl⟩⟩, fun i x s h => by simp at h, fun i j x y h => by simp at h⟩, hB0.trans (hb1.mono hB0.size)⟩

end Go.Proofs.YtbnllbhlmnkgcaaDoor
