/- the walk of checkRex -/
import Derived.Test.YteipaaapimkfcaaDoorTl
namespace Go.Proofs.YteipaaapimkfcaaDoor
open Go.RowKit Go.Shelf
set_option linter.unusedVariables false
set_option linter.unusedSimpArgs false
attribute [local go_sem] Oper.semAt_some

/-- what checkRex comes to: it returns, if the Rex is as it must be, else it panics -/
def ChkRes (ok : Bool) (t : TypeId) (ea : Addr) (w : World) (e : Ending) (w' : World) : Prop :=
  ((ok = true ∧ e = .returned (.tuple #[])) ∨ (ok = false ∧ e = .panicked (errChain t ea))) ∧ Below w.heap.size w w'

theorem keeps_setCell (W : World) (p : Addr) (u : Value) : Keeps (· = p.block) W (W.setCell p u) :=
  ⟨rfl, rfl, rfl, by simp [World.setCell], fun k _ hk => Below.heap_setCell _ _ _ _ hk⟩

set_option maxRecDepth 100000 in
set_option maxHeartbeats 4000000 in
theorem checkRex_any (S : Sh) (M : Mx) (w : World) (t : TypeId) (ea : Addr) (hE : Err w t ea) (hT : In (· < w.heap.size) w S M) (hcnt : cnt S ≤ 1048576) (ok : Bool) (HOK : Hid (okR S = ok)) :
    Calls Tryd.prog 34 #[vx S M] w (ChkRes ok t ea w) := by
  obtain ⟨sa, sn, sc, ka, km, kc, es, ek⟩ := hT.slices
  have hvx : vx S M = .agg #[.int .i64 S.kind, .slice sa sn sc, .slice ka km kc] := by rw [vx, es, ek]
  rw [hvx]
  have HE : Hid (Err w t ea) := hE
  have HT : Hid (In (· < w.heap.size) w S M) := hT
  have hk0 : Hid (M.sv = .slice sa sn sc ∧ M.kv = .slice ka km kc) := ⟨es, ek⟩
  clear es ek hvx hE hT
  refine calls_of_wpAt Tryd.func34 rfl ?_
  simp only [Tryd.ntmps34, List.size_toArray, List.length_cons, List.length_nil, Nat.reduceAdd, Nat.reduceSub, Array.replicate_succ, Array.replicate_zero, List.push_toArray, List.append_toArray, List.nil_append, List.cons_append]
  refine wpAt_seq (wpAt_of_wp ?_)
  go_wp2_with fail
  refine wpAt_seq (wpAt_of_wp ?_)
  go_wp2_with fail
  refine wpAt_seq (wpAt_of_wp ?_)
  go_wp2_with fail
  refine (partsOf_any _ S.kind sa sn sc ka km kc rfl _).mono ?_
  rintro e w1 ⟨rfl, rfl⟩
  go_wp2_with fail
  refine wpAt_block ?_
  have hb0 : Below w.heap.size w (((w.alloc (.cells #[.int .i64 S.kind, .slice sa sn sc, .slice ka km kc] 31)).alloc (.cells #[.int .i64 0] 3)).alloc (.cells #[.int .i64 S.kind, .slice sa sn sc, .slice ka km kc] 31)) :=
    (((Below.refl _ _).alloc (Nat.le_refl _) _).alloc (by simp) _).alloc (by simp; omega) _
  have m0 : (((w.alloc (.cells #[.int .i64 S.kind, .slice sa sn sc, .slice ka km kc] 31)).alloc (.cells #[.int .i64 0] 3)).alloc (.cells #[.int .i64 S.kind, .slice sa sn sc, .slice ka km kc] 31)).cell? ⟨w.heap.size + 1, 0, none⟩ = some (.int .i64 0) := by simp [go_sem]
  have f0 : (((w.alloc (.cells #[.int .i64 S.kind, .slice sa sn sc, .slice ka km kc] 31)).alloc (.cells #[.int .i64 0] 3)).alloc (.cells #[.int .i64 S.kind, .slice sa sn sc, .slice ka km kc] 31)).frozen? ⟨w.heap.size + 1, 0, none⟩ = false := by simp [go_sem]
  have hk : Kid (((w.alloc (.cells #[.int .i64 S.kind, .slice sa sn sc, .slice ka km kc] 31)).alloc (.cells #[.int .i64 0] 3)).alloc (.cells #[.int .i64 S.kind, .slice sa sn sc, .slice ka km kc] 31)) (w.heap.size + 1 + 1) 0 S M := by
    refine ⟨by simp [go_sem], ?_, ?_⟩
    · rw [hk0.out.1]; simp [go_sem]
    · rw [hk0.out.2]; simp [go_sem]
  have hsz : (((w.alloc (.cells #[.int .i64 S.kind, .slice sa sn sc, .slice ka km kc] 31)).alloc (.cells #[.int .i64 0] 3)).alloc (.cells #[.int .i64 S.kind, .slice sa sn sc, .slice ka km kc] 31)).heap.size = w.heap.size + 3 := by simp
  obtain ⟨W0, hW0⟩ : ∃ W0, (((w.alloc (.cells #[.int .i64 S.kind, .slice sa sn sc, .slice ka km kc] 31)).alloc (.cells #[.int .i64 0] 3)).alloc (.cells #[.int .i64 S.kind, .slice sa sn sc, .slice ka km kc] 31)) = W0 := ⟨_, rfl⟩
  rw [hW0] at hb0 m0 f0 hk hsz ⊢
  have hseq := parts_seq S M w.heap.size (w.heap.size + 1 + 1) W0 (by omega) (by omega) hk (HT.out.below hb0) hcnt
  have hT0 : In (· < w.heap.size) W0 S M := HT.out.below hb0
  have hall := okR_parts hT0
  rw [HOK.out] at hall
  have hE0 : Err W0 t ea := HE.out.below hb0
  clear hk hW0
  refine wpAt_rangeFunc_pan ⟨_, Tryd.func34⟩ (gf := 48) (lb := #[.pointer (some ⟨w.heap.size + 1 + 1, 0, none⟩)]) rfl (enters_of Tryd.func48 (by kernel_rfl) rfl) hseq (fun _ => rfl) (by omega)
    (· = w.heap.size + 1) (fun k hk => by omega)
    (fun pre W => Keeps (· = w.heap.size + 1) W0 W ∧ W.cell? ⟨w.heap.size + 1, 0, none⟩ = some (.int .i64 pre.length) ∧ W.frozen? ⟨w.heap.size + 1, 0, none⟩ = false ∧ Hid (pre.length ≤ 24 ∧ ∀ x ∈ pre, x.1 < 8 ∧ goodS x.2.1 = true))
    (fun ch W => ch = errChain t ea ∧ ok = false ∧ Keeps (· = w.heap.size + 1) W0 W)
    ?hI ⟨Keeps.refl _ _, by simpa using m0, f0, by simp [Hid]⟩ ?round ?done ?pan
  case hI =>
    rintro s W W' ⟨h1, h2, h3, h4⟩ hk
    exact ⟨h1.trans_new hk (fun i hi => hi.1), hk.cell h2 (by simp; omega), (hk.frozen h2 (by simp; omega)).trans h3, h4⟩
  case done =>
    rintro W ⟨h1, h2, h3, h4⟩ hD
    have hok : ok = true := hall.2 h4
    refine ⟨by simp, .inl ⟨_, _, rfl, run_takeDeferred hD, ?_⟩⟩
    refine ⟨_, results_none rfl _ _ _, .inl ⟨hok, rfl⟩, ?_⟩
    exact (hb0.trans (h1.below (m := w.heap.size) (by omega) (fun k e => by omega))).trans (belowK_b (w := W0) (by omega) W _ _ _ (Nat.le_refl _) hD rfl rfl)
  case pan =>
    rintro ch W ⟨rfl, h1, h2⟩ hD
    refine ⟨by simp, .inl ⟨_, _, rfl, run_takeDeferred hD, ?_⟩⟩
    refine ⟨.inr ⟨h1, rfl⟩, ?_⟩
    exact (hb0.trans (h2.below (m := w.heap.size) (by omega) (fun k e => by omega))).trans (belowK_b (w := W0) (by omega) W _ _ _ (Nat.le_refl _) hD rfl rfl)
  case round =>
    rintro l pre ⟨d, S', M'⟩ W hl ⟨h1, h2, h3, h4⟩ hlt hpre
    have hx : (d, S', M') ∈ partsL S 0 M := by
      obtain ⟨r, hr⟩ := hpre
      rw [← hr]; simp
    have hTx : In (· < w.heap.size) W S' M' := (parts_in hT0 hx).keeps (X := (· = w.heap.size + 1)) (fun k e => by omega) h1
    have hbad1 : ok = true → pre.length + 1 ≤ 24 ∧ d < 8 ∧ goodS S' = true := fun e => by
      obtain ⟨e1, e2⟩ := hall.1 e
      have hlen := hpre.length_le
      simp at hlen
      exact ⟨by omega, e2 _ hx⟩
    have hErr : Err W t ea := h1.cell hE0 (by simp)
    obtain ⟨kind, n, L, H, m, K, rfl, _⟩ := Sh.cases S'
    obtain ⟨sv, kv, Mk, rfl⟩ := Mx.cases M'
    have HTx : Hid (In (· < w.heap.size) W (.mk kind n L H m K) (.mk sv kv Mk)) := hTx
    obtain ⟨a, b, off, cap, a', b', off', cap', e1, hn, hs, hln, e2, hm, hlm, hk⟩ := hTx
    obtain rfl : sv = _ := e1
    obtain rfl : kv = _ := e2
    simp only [encP, vx, Sh.mk_kind, Mx.mk_sv, Mx.mk_kv]
    have HBAD : Hid (ok = true → pre.length + 1 ≤ 24 ∧ d < 8 ∧ goodS (.mk kind n L H m K) = true) := hbad1
    have HALL : Hid _ := hall
    have H1 : Hid (Keeps (· = w.heap.size + 1) W0 W) := h1
    have H4 : Hid _ := h4
    have HERR : Hid (Err W t ea) := hErr
    obtain ⟨q, hq⟩ : ∃ q : Int, (pre.length : Int) = q := ⟨_, rfl⟩
    have hq0 : 0 ≤ q := by omega
    have hq1 : q ≤ 24 := by have := h4.out.1; omega
    rw [hq] at h2
    have HS : Hid (Sp W b off n L H ∧ (0 < n → a = some ⟨b, off, none⟩) ∧ n ≤ 1048576) := ⟨hs, fun h => (hn h).1, by have := parts_cnt hx; simp only [cnt_mk] at this; omega⟩
    have hd20 : (d : Int) ≤ 1048576 := by have := parts_cnt hx; simp only at this; omega
    clear hbad1 hall h1 h4 hErr hx hpre hk hs hn hm hT0 hE0 hseq hb0 m0 f0
    gi_wp2_with fail
    have hb1 : Below W.heap.size W (W.alloc (.cells #[.int .i64 kind, .slice a n cap, .slice a' m cap'] 31)) := (Below.refl _ _).alloc (Nat.le_refl _) _
    refine ⟨hb1, fun W2 hK2 hs2 => ?_⟩
    have z1 : W2.cell? ⟨w.heap.size + 1, 0, none⟩ = some (.int .i64 q) := hK2.cell ((hb1.cell (p := ⟨w.heap.size + 1, 0, none⟩) (by simp only; omega)).trans h2) (by simp only; omega)
    have z2 : W2.frozen? ⟨w.heap.size + 1, 0, none⟩ = false := (hK2.frozen ((hb1.cell (p := ⟨w.heap.size + 1, 0, none⟩) (by simp only; omega)).trans h2) (by simp only; omega)).trans ((hb1.frozen (p := ⟨w.heap.size + 1, 0, none⟩) (by simp only; omega)).trans h3)
    have z3 : W2.cell? ⟨W.heap.size, 0, none⟩ = some (.int .i64 kind) := hK2.cell (by simp [go_sem]) (by simp only; omega)
    have z4 : W2.cell? ⟨W.heap.size, 1, none⟩ = some (.slice a n cap) := hK2.cell (by simp [go_sem]) (by simp only; omega)
    have z5 : W2.cell? ⟨W.heap.size, 2, none⟩ = some (.slice a' m cap') := hK2.cell (by simp [go_sem]) (by simp only; omega)
    have hsz2 : W2.heap.size = W.heap.size + 1 := by rw [hs2]; simp
    have hE2 : Err W2 t ea := hK2.cell ((hb1.cell (p := ⟨0, 0, none⟩) (by show 0 < _; omega)).trans HERR.out) (by show ¬ 0 = _; omega)
    have hS2 : Sp W2 b off n L H := by
      refine (HS.out.1.below hb1).keep (B := fun k => k < w.heap.size) (fun h => ?_) (fun k hk1 hk2 => hK2.block k hk2 (by omega))
      obtain ⟨_, _, _, _, _, _, _, _, he1, hn1, _⟩ := HTx.out
      obtain ⟨e1, e2⟩ := hn1 h
      cases he1
      have := HS.out.2.1 h
      rw [this] at e1
      cases e1
      exact e2
    have HKW : Hid (Keeps (· = w.heap.size + 1) W0 W2) := (H1.out.trans_new (keeps_of_below (fun _ => False) hb1) (fun i hi => hi.elim)).trans_new hK2 (fun i hi => by omega)
    have HE2 : Hid (Err W2 t ea) := hE2
    have HS2 : Hid (Sp W2 b off n L H) := hS2
    clear hK2 hs2 hE2 hS2 h2 h3 hb1
    have HNO6 : Hid (¬ (q + 1 ≤ 24 ∧ (d : Int) < 8) → ok = false) := fun h => Bool.eq_false_iff.2 (fun e => by obtain ⟨e1, e2, _⟩ := HBAD.out e; omega)
    by_cases hA : q + 1 ≤ 24
    · by_cases hB : (d : Int) < 8
      · gi_wp2_with fail
        refine ⟨trivial, rfl, (CallsIn.inRound _ ((callsIn_wide (n := 0)).2 (need_true _))).mono ?_⟩
        rintro e w3 ⟨rfl, rfl⟩
        have y1 : (W2.setCell ⟨w.heap.size + 1, 0, none⟩ (.int .i64 (q + 1))).cell? ⟨w.heap.size + 1, 0, none⟩ = some (.int .i64 (q + 1)) := World.cell?_setCell_same' _ _ _ (by rw [z1]; rfl)
        have y2 : (W2.setCell ⟨w.heap.size + 1, 0, none⟩ (.int .i64 (q + 1))).frozen? ⟨w.heap.size + 1, 0, none⟩ = false := by rw [World.frozen?_setCell]; exact z2
        have hks : Keeps (· = w.heap.size + 1) W2 (W2.setCell ⟨w.heap.size + 1, 0, none⟩ (.int .i64 (q + 1))) := keeps_setCell W2 ⟨w.heap.size + 1, 0, none⟩ (.int .i64 (q + 1))
        have y3 := hks.cell z3 (by simp only; omega)
        have y4 := hks.cell z4 (by simp only; omega)
        have y5 := hks.cell z5 (by simp only; omega)
        have yE : Err (W2.setCell ⟨w.heap.size + 1, 0, none⟩ (.int .i64 (q + 1))) t ea := hks.cell HE2.out (by show ¬ 0 = w.heap.size + 1; omega)
        have yS : Sp (W2.setCell ⟨w.heap.size + 1, 0, none⟩ (.int .i64 (q + 1))) b off n L H := by
          refine HS2.out.keep (B := fun k => k < w.heap.size) (fun h => ?_) (fun k hk1 hk2 => hks.block k hk2 (by omega))
          obtain ⟨_, _, _, _, _, _, _, _, he1, hn1, _⟩ := HTx.out
          obtain ⟨e1, e2⟩ := hn1 h
          cases he1
          have := HS.out.2.1 h
          rw [this] at e1
          cases e1
          exact e2
        obtain ⟨W3, hW3⟩ : ∃ W3, W2.setCell ⟨w.heap.size + 1, 0, none⟩ (.int .i64 (q + 1)) = W3 := ⟨_, rfl⟩
        rw [hW3] at y1 y2 y3 y4 y5 yE yS hks ⊢
        have HKS : Hid (Keeps (· = w.heap.size + 1) W2 W3) := hks
        have HYE : Hid (Err W3 t ea) := yE
        have HYS : Hid (Sp W3 b off n L H) := yS
        have hsz3 : W3.heap.size = W.heap.size + 1 := by rw [← hW3]; simp [World.setCell]; exact hsz2
        clear hW3 yE yS hks z1 z2 z3 z4 z5 HE2 HS2
        have HFIN : Hid (goodS (.mk kind n L H m K) = true → ∀ w', Below W3.heap.size W3 w' → Keeps (· = w.heap.size + 1) W2 w' ∧ Keeps (· = w.heap.size + 1) W0 w' ∧ w'.cell? ⟨w.heap.size + 1, 0, none⟩ = some (.int .i64 ((pre ++ [(d, Sh.mk kind n L H m K, Mx.mk (.slice a n cap) (.slice a' m cap') Mk)]).length : Nat)) ∧ w'.frozen? ⟨w.heap.size + 1, 0, none⟩ = false ∧
            Hid ((pre ++ [(d, Sh.mk kind n L H m K, Mx.mk (.slice a n cap) (.slice a' m cap') Mk)]).length ≤ 24 ∧ ∀ x ∈ pre ++ [(d, Sh.mk kind n L H m K, Mx.mk (.slice a n cap) (.slice a' m cap') Mk)], x.1 < 8 ∧ goodS x.2.1 = true)) := fun hg w' hb => by
          refine ⟨HKS.out.trans (keeps_of_below _ hb), HKW.out.trans (HKS.out.trans (keeps_of_below _ hb)), ?_, (hb.frozen (p := ⟨w.heap.size + 1, 0, none⟩) (World.block_lt_of_cell? _ _ y1)).trans y2, ?_, ?_⟩
          · rw [(hb.cell (p := ⟨w.heap.size + 1, 0, none⟩) (World.block_lt_of_cell? _ _ y1)).trans y1]
            simp only [List.length_append, List.length_cons, List.length_nil]
            congr 2; omega
          · simp only [List.length_append, List.length_cons, List.length_nil]; omega
          · intro x hx
            rcases List.mem_append.1 hx with hx | hx
            · exact H4.out.2 x hx
            · obtain rfl := List.mem_singleton.1 hx
              exact ⟨by simp only; omega, hg⟩
        have HPAN : Hid (goodS (.mk kind n L H m K) = false → ∀ w', Below W3.heap.size W3 w' → Keeps (· = w.heap.size + 1) W2 w' ∧ ok = false ∧ Keeps (· = w.heap.size + 1) W0 w') := fun hg w' hb =>
          ⟨HKS.out.trans (keeps_of_below _ hb), Bool.eq_false_iff.2 (fun e => by have := (HBAD.out e).2.2; rw [hg] at this; cases this), HKW.out.trans (HKS.out.trans (keeps_of_below _ hb))⟩
        gi_wp2_with fail
        by_cases hkind : kidsOf kind = -1
        · have HBADK : Hid (kidsOf kind = -1 → goodS (.mk kind n L H m K) = false) := fun e => by simp [goodS, Sh.mk, goodB, e]
          have hmix : Tryd.prog.follows .mixedOrders = true := by kernel_rfl
          refine wpIn_region_any_round hmix (by kernel_rfl) ?_
          refine wpAnyIn_take (i := 0) (v := .pointer (some ⟨W.heap.size, 2, none⟩)) rfl rfl (by kernel_rfl) (by kernel_rfl) (by kernel_rfl) (fun _ _ _ h => h) ⟨Or.inl ⟨by rfl, fun w => by go_simp⟩, fun _ => rfl⟩ ?_
          refine wpAnyIn_take (i := 3) (v := .pointer (some ⟨W.heap.size, 0, none⟩)) rfl rfl (by kernel_rfl) (by kernel_rfl) (by kernel_rfl) (fun _ _ _ h => h) ⟨Or.inl ⟨by rfl, fun w => by go_simp⟩, fun _ => rfl⟩ ?_
          refine wpAnyIn_ready (rs := [1, 4]) (by kernel_rfl) (by simp) (AllReadyIn.cons rfl (fun K hK => ?_) (AllReadyIn.cons rfl (fun K hK => ?_) AllReadyIn.nil))
          · go_simp
            refine hK _ _ ?_
            clear hK K
            refine wpAnyIn_take (i := 2) (v := .int .i64 m) rfl rfl (by kernel_rfl) (by kernel_rfl) (by kernel_rfl) (fun _ _ _ h => h) ⟨Or.inl ⟨by rfl, fun w => by go_simp⟩, fun _ => rfl⟩ ?_
            refine wpAnyIn_ready (rs := [4]) (by kernel_rfl) (by simp) (AllReadyIn.cons rfl (fun K hK => ?_) AllReadyIn.nil)
            go_simp
            refine hK _ _ ?_
            clear hK K
            refine wpAnyIn_ready (rs := [5]) (by kernel_rfl) (by simp) (AllReadyIn.cons rfl (fun K hK => ?_) AllReadyIn.nil)
            go_simp
            refine ⟨trivial, rfl, ((callsIn_wide (n := 0)).2 (kindOf_bad kind hkind _ t ea (HYE.out.below (Below.refl _ _).drew))).mono ?_⟩
            rintro e w4 ⟨rfl, rfl⟩
            have hp := HPAN.out (HBADK.out hkind) _ (Below.refl _ _).drew
            exact ⟨hp.1, rfl, rfl, hp.2.1, hp.2.2⟩
          · go_simp
            refine hK _ _ ?_
            clear hK K
            refine wpAnyIn_ready (rs := [1, 5]) (by kernel_rfl) (by simp) (AllReadyIn.cons rfl (fun K hK => ?_) (AllReadyIn.cons rfl (fun K hK => ?_) AllReadyIn.nil))
            · go_simp
              refine hK _ _ ?_
              clear hK K
              refine wpAnyIn_take (i := 2) (v := .int .i64 m) rfl rfl (by kernel_rfl) (by kernel_rfl) (by kernel_rfl) (fun _ _ _ h => h) ⟨Or.inl ⟨by rfl, fun w => by go_simp⟩, fun _ => rfl⟩ ?_
              refine wpAnyIn_ready (rs := [5]) (by kernel_rfl) (by simp) (AllReadyIn.cons rfl (fun K hK => ?_) AllReadyIn.nil)
              go_simp
              refine ⟨trivial, rfl, ((callsIn_wide (n := 0)).2 (kindOf_bad kind hkind _ t ea (HYE.out.below (Below.refl _ _).drew))).mono ?_⟩
              rintro e w4 ⟨rfl, rfl⟩
              have hp := HPAN.out (HBADK.out hkind) _ (Below.refl _ _).drew
              exact ⟨hp.1, rfl, rfl, hp.2.1, hp.2.2⟩
            · go_simp
              refine ⟨trivial, rfl, ((callsIn_wide (n := 0)).2 (kindOf_bad kind hkind _ t ea (HYE.out.below (Below.refl _ _).drew))).mono ?_⟩
              rintro e w4 ⟨rfl, rfl⟩
              have hp := HPAN.out (HBADK.out hkind) _ (Below.refl _ _).drew
              exact ⟨hp.1, rfl, rfl, hp.2.1, hp.2.2⟩
        · have HKO : Hid (∀ w, Calls Tryd.prog 45 #[.int .i64 kind] w fun e w' => e = .returned (.iface (kindT kind) (.agg #[])) ∧ w' = w) := kindOf_ok kind hkind
          have HKI : Hid (∀ w, Calls Tryd.prog (kidsF kind) #[.agg #[]] w fun e w' => e = .returned (.int .i64 (kidsOf kind)) ∧ Below w.heap.size w w') := kids_ok kind hkind
          by_cases hkm : kidsOf kind = m
          · have HGOOD : Hid (kind = 1 → okB n L H = true → goodS (.mk kind n L H m K) = true) := fun e1 e2 => by show goodB kind n L H m = true; rw [goodB, hkm, e2]; simp [e1]
            have HGOOD0 : Hid (n = 0 → goodS (.mk kind n L H m K) = true) := fun e1 => by subst e1; simp [goodS, Sh.mk, goodB, hkm, okB]
            have HBADO : Hid (okB n L H = false → goodS (.mk kind n L H m K) = false) := fun e1 => by simp [goodS, Sh.mk, goodB, e1]
            have HBADN : Hid (kind ≠ 1 → n ≠ 0 → goodS (.mk kind n L H m K) = false) := fun e1 e2 => by simp [goodS, Sh.mk, goodB, e1, e2]
            rw [hkm] at HKI
            clear hkm
            have hmix : Tryd.prog.follows .mixedOrders = true := by kernel_rfl
            refine wpIn_region_any_round hmix (by kernel_rfl) ?_
            refine wpAnyIn_take (i := 0) (v := .pointer (some ⟨W.heap.size, 2, none⟩)) rfl rfl (by kernel_rfl) (by kernel_rfl) (by kernel_rfl) (fun _ _ _ h => h) ⟨Or.inl ⟨by rfl, fun w => by go_simp⟩, fun _ => rfl⟩ ?_
            refine wpAnyIn_take (i := 3) (v := .pointer (some ⟨W.heap.size, 0, none⟩)) rfl rfl (by kernel_rfl) (by kernel_rfl) (by kernel_rfl) (fun _ _ _ h => h) ⟨Or.inl ⟨by rfl, fun w => by go_simp⟩, fun _ => rfl⟩ ?_
            refine wpAnyIn_ready (rs := [1, 4]) (by kernel_rfl) (by simp) (AllReadyIn.cons rfl (fun K hK => ?_) (AllReadyIn.cons rfl (fun K hK => ?_) AllReadyIn.nil))
            · go_simp
              refine hK _ _ ?_
              clear hK K
              refine wpAnyIn_take (i := 2) (v := .int .i64 m) rfl rfl (by kernel_rfl) (by kernel_rfl) (by kernel_rfl) (fun _ _ _ h => h) ⟨Or.inl ⟨by rfl, fun w => by go_simp⟩, fun _ => rfl⟩ ?_
              refine wpAnyIn_ready (rs := [4]) (by kernel_rfl) (by simp) (AllReadyIn.cons rfl (fun K hK => ?_) AllReadyIn.nil)
              go_simp
              refine hK _ _ ?_
              clear hK K
              refine wpAnyIn_ready (rs := [5]) (by kernel_rfl) (by simp) (AllReadyIn.cons rfl (fun K hK => ?_) AllReadyIn.nil)
              go_simp
              refine ⟨trivial, rfl, ((callsIn_wide (n := 0)).2 (HKO.out _)).mono ?_⟩
              rintro e w4 ⟨rfl, rfl⟩
              refine hK _ _ ?_
              clear hK K
              refine wpAnyIn_ready (rs := [6]) (by kernel_rfl) (by simp) (AllReadyIn.cons rfl (fun K hK => ?_) AllReadyIn.nil)
              go_simp
              rw [meth_kids kind hkind _ ?nm]
              case nm => kernel_rfl
              refine ⟨fun _ _ => trivial, ?_⟩
              simp only [Result.andThen]
              rw [enter_kids kind hkind]
              refine ⟨fun h => (by cases h), ((callsIn_wide (n := 0)).2 (HKI.out _)).mono ?_⟩
              rintro e w6 ⟨rfl, hb6⟩
              have hb6' : Below W3.heap.size W3 w6 := (Below.refl _ _).drew.trans hb6
              have x5 : w6.cell? ⟨W.heap.size, 2, none⟩ = some (.slice a' m cap') := (hb6'.cell (p := ⟨W.heap.size, 2, none⟩) (by show W.heap.size < _; omega)).trans y5
              refine hK _ _ ?_
              clear hK K
              refine wpAnyIn_ready (rs := [7]) (by kernel_rfl) (by simp) (AllReadyIn.cons rfl (fun K hK => ?_) AllReadyIn.nil)
              go_simp
              refine hK _ _ ?_
              clear hK K
              refine wpAnyIn_ready (rs := [8]) (by kernel_rfl) (by simp) (AllReadyIn.cons rfl (fun K hK => ?_) AllReadyIn.nil)
              go_simp
              refine ⟨trivial, rfl, ((callsIn_wide (n := 0)).2 (need_true _)).mono ?_⟩
              rintro e w7 ⟨rfl, hw7⟩
              subst w7
              refine hK _ _ ?_
              clear hK K
              refine wpAnyIn_done (by kernel_rfl) ?_ _
              have x4 : w6.cell? ⟨W.heap.size, 1, none⟩ = some (.slice a n cap) := (hb6'.cell (p := ⟨W.heap.size, 1, none⟩) (by show W.heap.size < _; omega)).trans y4
              have x3 : w6.cell? ⟨W.heap.size, 0, none⟩ = some (.int .i64 kind) := (hb6'.cell (p := ⟨W.heap.size, 0, none⟩) (by show W.heap.size < _; omega)).trans y3
              by_cases hone : kind = 1
              · have hk1 : (kind == 1) = true := by simpa using hone
                have HONE : Hid (kind = 1) := hone
                clear hone
                gi_wp2_with fail
                refine ⟨trivial, rfl, (CallsIn.inRound _ ((callsIn_wide (n := 0)).2 (implSetOk_any a b off cap n L H w6 HS.out.2.1 (HYS.out.below hb6') (by have := HS.out.2.2; omega)))).mono ?_⟩
                rintro e w8 ⟨rfl, hb8⟩
                have hb8' : Below W3.heap.size W3 w8 := hb6'.trans (hb8.mono hb6'.size)
                by_cases hok : okB n L H = true
                · rw [hok]
                  have HG := HGOOD.out HONE.out hok
                  clear hok
                  gi_wp2_with fail
                  refine ⟨trivial, rfl, (CallsIn.inRound _ ((callsIn_wide (n := 0)).2 (need_true _))).mono ?_⟩
                  rintro e w9 ⟨rfl, rfl⟩
                  gi_wp2_with fail
                  exact HFIN.out HG _ hb8'
                · have hok' : okB n L H = false := Bool.eq_false_iff.2 hok
                  rw [hok']
                  have HG := HBADO.out hok'
                  clear hok hok'
                  gi_wp2_with fail
                  refine ⟨trivial, rfl, (CallsIn.inRound _ ((callsIn_wide (n := 0)).2 (need_false _ t ea (HYE.out.below hb8')))).mono ?_⟩
                  rintro e w9 ⟨rfl, rfl⟩
                  have hp := HPAN.out HG _ hb8'
                  exact ⟨hp.1, rfl, rfl, hp.2.1, hp.2.2⟩
              · have hk1 : (kind == 1) = false := by simpa using hone
                have HONE : Hid (kind ≠ 1) := hone
                clear hone
                by_cases hn0 : n = 0
                · have hnz : ((n : Int) == 0) = true := by simp; omega
                  have HN0 : Hid (n = 0) := hn0
                  clear hn0
                  gi_wp2_with fail
                  refine ⟨trivial, rfl, (CallsIn.inRound _ ((callsIn_wide (n := 0)).2 (need_true _))).mono ?_⟩
                  rintro e w9 ⟨rfl, rfl⟩
                  gi_wp2_with fail
                  exact HFIN.out (HGOOD0.out HN0.out) _ hb6'
                · have hnz : ((n : Int) == 0) = false := by simp; omega
                  have hnz' : ¬ n = 0 := hn0
                  have HN0 : Hid (n ≠ 0) := hn0
                  clear hn0
                  gi_wp2_with fail
                  refine ⟨trivial, rfl, (CallsIn.inRound _ ((callsIn_wide (n := 0)).2 (need_false _ t ea (HYE.out.below hb6')))).mono ?_⟩
                  rintro e w9 ⟨rfl, rfl⟩
                  have hp := HPAN.out (HBADN.out HONE.out HN0.out) _ hb6'
                  exact ⟨hp.1, rfl, rfl, hp.2.1, hp.2.2⟩
            · go_simp
              refine hK _ _ ?_
              clear hK K
              refine wpAnyIn_ready (rs := [1, 5]) (by kernel_rfl) (by simp) (AllReadyIn.cons rfl (fun K hK => ?_) (AllReadyIn.cons rfl (fun K hK => ?_) AllReadyIn.nil))
              · go_simp
                refine hK _ _ ?_
                clear hK K
                refine wpAnyIn_take (i := 2) (v := .int .i64 m) rfl rfl (by kernel_rfl) (by kernel_rfl) (by kernel_rfl) (fun _ _ _ h => h) ⟨Or.inl ⟨by rfl, fun w => by go_simp⟩, fun _ => rfl⟩ ?_
                refine wpAnyIn_ready (rs := [5]) (by kernel_rfl) (by simp) (AllReadyIn.cons rfl (fun K hK => ?_) AllReadyIn.nil)
                go_simp
                refine ⟨trivial, rfl, ((callsIn_wide (n := 0)).2 (HKO.out _)).mono ?_⟩
                rintro e w4 ⟨rfl, rfl⟩
                refine hK _ _ ?_
                clear hK K
                refine wpAnyIn_ready (rs := [6]) (by kernel_rfl) (by simp) (AllReadyIn.cons rfl (fun K hK => ?_) AllReadyIn.nil)
                go_simp
                rw [meth_kids kind hkind _ ?nm]
                case nm => kernel_rfl
                refine ⟨fun _ _ => trivial, ?_⟩
                simp only [Result.andThen]
                rw [enter_kids kind hkind]
                refine ⟨fun h => (by cases h), ((callsIn_wide (n := 0)).2 (HKI.out _)).mono ?_⟩
                rintro e w6 ⟨rfl, hb6⟩
                have hb6' : Below W3.heap.size W3 w6 := (Below.refl _ _).drew.trans hb6
                have x5 : w6.cell? ⟨W.heap.size, 2, none⟩ = some (.slice a' m cap') := (hb6'.cell (p := ⟨W.heap.size, 2, none⟩) (by show W.heap.size < _; omega)).trans y5
                refine hK _ _ ?_
                clear hK K
                refine wpAnyIn_ready (rs := [7]) (by kernel_rfl) (by simp) (AllReadyIn.cons rfl (fun K hK => ?_) AllReadyIn.nil)
                go_simp
                refine hK _ _ ?_
                clear hK K
                refine wpAnyIn_ready (rs := [8]) (by kernel_rfl) (by simp) (AllReadyIn.cons rfl (fun K hK => ?_) AllReadyIn.nil)
                go_simp
                refine ⟨trivial, rfl, ((callsIn_wide (n := 0)).2 (need_true _)).mono ?_⟩
                rintro e w7 ⟨rfl, hw7⟩
                subst w7
                refine hK _ _ ?_
                clear hK K
                refine wpAnyIn_done (by kernel_rfl) ?_ _
                have x4 : w6.cell? ⟨W.heap.size, 1, none⟩ = some (.slice a n cap) := (hb6'.cell (p := ⟨W.heap.size, 1, none⟩) (by show W.heap.size < _; omega)).trans y4
                have x3 : w6.cell? ⟨W.heap.size, 0, none⟩ = some (.int .i64 kind) := (hb6'.cell (p := ⟨W.heap.size, 0, none⟩) (by show W.heap.size < _; omega)).trans y3
                by_cases hone : kind = 1
                · have hk1 : (kind == 1) = true := by simpa using hone
                  have HONE : Hid (kind = 1) := hone
                  clear hone
                  gi_wp2_with fail
                  refine ⟨trivial, rfl, (CallsIn.inRound _ ((callsIn_wide (n := 0)).2 (implSetOk_any a b off cap n L H w6 HS.out.2.1 (HYS.out.below hb6') (by have := HS.out.2.2; omega)))).mono ?_⟩
                  rintro e w8 ⟨rfl, hb8⟩
                  have hb8' : Below W3.heap.size W3 w8 := hb6'.trans (hb8.mono hb6'.size)
                  by_cases hok : okB n L H = true
                  · rw [hok]
                    have HG := HGOOD.out HONE.out hok
                    clear hok
                    gi_wp2_with fail
                    refine ⟨trivial, rfl, (CallsIn.inRound _ ((callsIn_wide (n := 0)).2 (need_true _))).mono ?_⟩
                    rintro e w9 ⟨rfl, rfl⟩
                    gi_wp2_with fail
                    exact HFIN.out HG _ hb8'
                  · have hok' : okB n L H = false := Bool.eq_false_iff.2 hok
                    rw [hok']
                    have HG := HBADO.out hok'
                    clear hok hok'
                    gi_wp2_with fail
                    refine ⟨trivial, rfl, (CallsIn.inRound _ ((callsIn_wide (n := 0)).2 (need_false _ t ea (HYE.out.below hb8')))).mono ?_⟩
                    rintro e w9 ⟨rfl, rfl⟩
                    have hp := HPAN.out HG _ hb8'
                    exact ⟨hp.1, rfl, rfl, hp.2.1, hp.2.2⟩
                · have hk1 : (kind == 1) = false := by simpa using hone
                  have HONE : Hid (kind ≠ 1) := hone
                  clear hone
                  by_cases hn0 : n = 0
                  · have hnz : ((n : Int) == 0) = true := by simp; omega
                    have HN0 : Hid (n = 0) := hn0
                    clear hn0
                    gi_wp2_with fail
                    refine ⟨trivial, rfl, (CallsIn.inRound _ ((callsIn_wide (n := 0)).2 (need_true _))).mono ?_⟩
                    rintro e w9 ⟨rfl, rfl⟩
                    gi_wp2_with fail
                    exact HFIN.out (HGOOD0.out HN0.out) _ hb6'
                  · have hnz : ((n : Int) == 0) = false := by simp; omega
                    have hnz' : ¬ n = 0 := hn0
                    have HN0 : Hid (n ≠ 0) := hn0
                    clear hn0
                    gi_wp2_with fail
                    refine ⟨trivial, rfl, (CallsIn.inRound _ ((callsIn_wide (n := 0)).2 (need_false _ t ea (HYE.out.below hb6')))).mono ?_⟩
                    rintro e w9 ⟨rfl, rfl⟩
                    have hp := HPAN.out (HBADN.out HONE.out HN0.out) _ hb6'
                    exact ⟨hp.1, rfl, rfl, hp.2.1, hp.2.2⟩
              · go_simp
                refine ⟨trivial, rfl, ((callsIn_wide (n := 0)).2 (HKO.out _)).mono ?_⟩
                rintro e w4 ⟨rfl, rfl⟩
                refine hK _ _ ?_
                clear hK K
                refine wpAnyIn_ready (rs := [1, 6]) (by kernel_rfl) (by simp) (AllReadyIn.cons rfl (fun K hK => ?_) (AllReadyIn.cons rfl (fun K hK => ?_) AllReadyIn.nil))
                · go_simp
                  refine hK _ _ ?_
                  clear hK K
                  refine wpAnyIn_take (i := 2) (v := .int .i64 m) rfl rfl (by kernel_rfl) (by kernel_rfl) (by kernel_rfl) (fun _ _ _ h => h) ⟨Or.inl ⟨by rfl, fun w => by go_simp⟩, fun _ => rfl⟩ ?_
                  refine wpAnyIn_ready (rs := [6]) (by kernel_rfl) (by simp) (AllReadyIn.cons rfl (fun K hK => ?_) AllReadyIn.nil)
                  go_simp
                  rw [meth_kids kind hkind _ ?nm]
                  case nm => kernel_rfl
                  refine ⟨fun _ _ => trivial, ?_⟩
                  simp only [Result.andThen]
                  rw [enter_kids kind hkind]
                  refine ⟨fun h => (by cases h), ((callsIn_wide (n := 0)).2 (HKI.out _)).mono ?_⟩
                  rintro e w6 ⟨rfl, hb6⟩
                  have hb6' : Below W3.heap.size W3 w6 := (Below.refl _ _).drew.trans hb6
                  have x5 : w6.cell? ⟨W.heap.size, 2, none⟩ = some (.slice a' m cap') := (hb6'.cell (p := ⟨W.heap.size, 2, none⟩) (by show W.heap.size < _; omega)).trans y5
                  refine hK _ _ ?_
                  clear hK K
                  refine wpAnyIn_ready (rs := [7]) (by kernel_rfl) (by simp) (AllReadyIn.cons rfl (fun K hK => ?_) AllReadyIn.nil)
                  go_simp
                  refine hK _ _ ?_
                  clear hK K
                  refine wpAnyIn_ready (rs := [8]) (by kernel_rfl) (by simp) (AllReadyIn.cons rfl (fun K hK => ?_) AllReadyIn.nil)
                  go_simp
                  refine ⟨trivial, rfl, ((callsIn_wide (n := 0)).2 (need_true _)).mono ?_⟩
                  rintro e w7 ⟨rfl, hw7⟩
                  subst w7
                  refine hK _ _ ?_
                  clear hK K
                  refine wpAnyIn_done (by kernel_rfl) ?_ _
                  have x4 : w6.cell? ⟨W.heap.size, 1, none⟩ = some (.slice a n cap) := (hb6'.cell (p := ⟨W.heap.size, 1, none⟩) (by show W.heap.size < _; omega)).trans y4
                  have x3 : w6.cell? ⟨W.heap.size, 0, none⟩ = some (.int .i64 kind) := (hb6'.cell (p := ⟨W.heap.size, 0, none⟩) (by show W.heap.size < _; omega)).trans y3
                  by_cases hone : kind = 1
                  · have hk1 : (kind == 1) = true := by simpa using hone
                    have HONE : Hid (kind = 1) := hone
                    clear hone
                    gi_wp2_with fail
                    refine ⟨trivial, rfl, (CallsIn.inRound _ ((callsIn_wide (n := 0)).2 (implSetOk_any a b off cap n L H w6 HS.out.2.1 (HYS.out.below hb6') (by have := HS.out.2.2; omega)))).mono ?_⟩
                    rintro e w8 ⟨rfl, hb8⟩
                    have hb8' : Below W3.heap.size W3 w8 := hb6'.trans (hb8.mono hb6'.size)
                    by_cases hok : okB n L H = true
                    · rw [hok]
                      have HG := HGOOD.out HONE.out hok
                      clear hok
                      gi_wp2_with fail
                      refine ⟨trivial, rfl, (CallsIn.inRound _ ((callsIn_wide (n := 0)).2 (need_true _))).mono ?_⟩
                      rintro e w9 ⟨rfl, rfl⟩
                      gi_wp2_with fail
                      exact HFIN.out HG _ hb8'
                    · have hok' : okB n L H = false := Bool.eq_false_iff.2 hok
                      rw [hok']
                      have HG := HBADO.out hok'
                      clear hok hok'
                      gi_wp2_with fail
                      refine ⟨trivial, rfl, (CallsIn.inRound _ ((callsIn_wide (n := 0)).2 (need_false _ t ea (HYE.out.below hb8')))).mono ?_⟩
                      rintro e w9 ⟨rfl, rfl⟩
                      have hp := HPAN.out HG _ hb8'
                      exact ⟨hp.1, rfl, rfl, hp.2.1, hp.2.2⟩
                  · have hk1 : (kind == 1) = false := by simpa using hone
                    have HONE : Hid (kind ≠ 1) := hone
                    clear hone
                    by_cases hn0 : n = 0
                    · have hnz : ((n : Int) == 0) = true := by simp; omega
                      have HN0 : Hid (n = 0) := hn0
                      clear hn0
                      gi_wp2_with fail
                      refine ⟨trivial, rfl, (CallsIn.inRound _ ((callsIn_wide (n := 0)).2 (need_true _))).mono ?_⟩
                      rintro e w9 ⟨rfl, rfl⟩
                      gi_wp2_with fail
                      exact HFIN.out (HGOOD0.out HN0.out) _ hb6'
                    · have hnz : ((n : Int) == 0) = false := by simp; omega
                      have hnz' : ¬ n = 0 := hn0
                      have HN0 : Hid (n ≠ 0) := hn0
                      clear hn0
                      gi_wp2_with fail
                      refine ⟨trivial, rfl, (CallsIn.inRound _ ((callsIn_wide (n := 0)).2 (need_false _ t ea (HYE.out.below hb6')))).mono ?_⟩
                      rintro e w9 ⟨rfl, rfl⟩
                      have hp := HPAN.out (HBADN.out HONE.out HN0.out) _ hb6'
                      exact ⟨hp.1, rfl, rfl, hp.2.1, hp.2.2⟩
                · go_simp
                  rw [meth_kids kind hkind _ ?nm]
                  case nm => kernel_rfl
                  refine ⟨fun _ _ => trivial, ?_⟩
                  simp only [Result.andThen]
                  rw [enter_kids kind hkind]
                  refine ⟨fun h => (by cases h), ((callsIn_wide (n := 0)).2 (HKI.out _)).mono ?_⟩
                  rintro e w6 ⟨rfl, hb6⟩
                  have hb6' : Below W3.heap.size W3 w6 := (Below.refl _ _).drew.trans hb6
                  have x5 : w6.cell? ⟨W.heap.size, 2, none⟩ = some (.slice a' m cap') := (hb6'.cell (p := ⟨W.heap.size, 2, none⟩) (by show W.heap.size < _; omega)).trans y5
                  refine hK _ _ ?_
                  clear hK K
                  refine wpAnyIn_ready (rs := [1]) (by kernel_rfl) (by simp) (AllReadyIn.cons rfl (fun K hK => ?_) AllReadyIn.nil)
                  go_simp
                  refine hK _ _ ?_
                  clear hK K
                  refine wpAnyIn_take (i := 2) (v := .int .i64 m) rfl rfl (by kernel_rfl) (by kernel_rfl) (by kernel_rfl) (fun _ _ _ h => h) ⟨Or.inl ⟨by rfl, fun w => by go_simp⟩, fun _ => rfl⟩ ?_
                  refine wpAnyIn_ready (rs := [7]) (by kernel_rfl) (by simp) (AllReadyIn.cons rfl (fun K hK => ?_) AllReadyIn.nil)
                  go_simp
                  refine hK _ _ ?_
                  clear hK K
                  refine wpAnyIn_ready (rs := [8]) (by kernel_rfl) (by simp) (AllReadyIn.cons rfl (fun K hK => ?_) AllReadyIn.nil)
                  go_simp
                  refine ⟨trivial, rfl, ((callsIn_wide (n := 0)).2 (need_true _)).mono ?_⟩
                  rintro e w7 ⟨rfl, hw7⟩
                  subst w7
                  refine hK _ _ ?_
                  clear hK K
                  refine wpAnyIn_done (by kernel_rfl) ?_ _
                  have x4 : w6.cell? ⟨W.heap.size, 1, none⟩ = some (.slice a n cap) := (hb6'.cell (p := ⟨W.heap.size, 1, none⟩) (by show W.heap.size < _; omega)).trans y4
                  have x3 : w6.cell? ⟨W.heap.size, 0, none⟩ = some (.int .i64 kind) := (hb6'.cell (p := ⟨W.heap.size, 0, none⟩) (by show W.heap.size < _; omega)).trans y3
                  by_cases hone : kind = 1
                  · have hk1 : (kind == 1) = true := by simpa using hone
                    have HONE : Hid (kind = 1) := hone
                    clear hone
                    gi_wp2_with fail
                    refine ⟨trivial, rfl, (CallsIn.inRound _ ((callsIn_wide (n := 0)).2 (implSetOk_any a b off cap n L H w6 HS.out.2.1 (HYS.out.below hb6') (by have := HS.out.2.2; omega)))).mono ?_⟩
                    rintro e w8 ⟨rfl, hb8⟩
                    have hb8' : Below W3.heap.size W3 w8 := hb6'.trans (hb8.mono hb6'.size)
                    by_cases hok : okB n L H = true
                    · rw [hok]
                      have HG := HGOOD.out HONE.out hok
                      clear hok
                      gi_wp2_with fail
                      refine ⟨trivial, rfl, (CallsIn.inRound _ ((callsIn_wide (n := 0)).2 (need_true _))).mono ?_⟩
                      rintro e w9 ⟨rfl, rfl⟩
                      gi_wp2_with fail
                      exact HFIN.out HG _ hb8'
                    · have hok' : okB n L H = false := Bool.eq_false_iff.2 hok
                      rw [hok']
                      have HG := HBADO.out hok'
                      clear hok hok'
                      gi_wp2_with fail
                      refine ⟨trivial, rfl, (CallsIn.inRound _ ((callsIn_wide (n := 0)).2 (need_false _ t ea (HYE.out.below hb8')))).mono ?_⟩
                      rintro e w9 ⟨rfl, rfl⟩
                      have hp := HPAN.out HG _ hb8'
                      exact ⟨hp.1, rfl, rfl, hp.2.1, hp.2.2⟩
                  · have hk1 : (kind == 1) = false := by simpa using hone
                    have HONE : Hid (kind ≠ 1) := hone
                    clear hone
                    by_cases hn0 : n = 0
                    · have hnz : ((n : Int) == 0) = true := by simp; omega
                      have HN0 : Hid (n = 0) := hn0
                      clear hn0
                      gi_wp2_with fail
                      refine ⟨trivial, rfl, (CallsIn.inRound _ ((callsIn_wide (n := 0)).2 (need_true _))).mono ?_⟩
                      rintro e w9 ⟨rfl, rfl⟩
                      gi_wp2_with fail
                      exact HFIN.out (HGOOD0.out HN0.out) _ hb6'
                    · have hnz : ((n : Int) == 0) = false := by simp; omega
                      have hnz' : ¬ n = 0 := hn0
                      have HN0 : Hid (n ≠ 0) := hn0
                      clear hn0
                      gi_wp2_with fail
                      refine ⟨trivial, rfl, (CallsIn.inRound _ ((callsIn_wide (n := 0)).2 (need_false _ t ea (HYE.out.below hb6')))).mono ?_⟩
                      rintro e w9 ⟨rfl, rfl⟩
                      have hp := HPAN.out (HBADN.out HONE.out HN0.out) _ hb6'
                      exact ⟨hp.1, rfl, rfl, hp.2.1, hp.2.2⟩
          · have HBADM : Hid (goodS (.mk kind n L H m K) = false) := by show goodB kind n L H m = false; simp [goodB, hkm]
            have hne : ((m : Int) == kidsOf kind) = false := by simp; omega
            clear hkm
            have hmix : Tryd.prog.follows .mixedOrders = true := by kernel_rfl
            refine wpIn_region_any_round hmix (by kernel_rfl) ?_
            refine wpAnyIn_take (i := 0) (v := .pointer (some ⟨W.heap.size, 2, none⟩)) rfl rfl (by kernel_rfl) (by kernel_rfl) (by kernel_rfl) (fun _ _ _ h => h) ⟨Or.inl ⟨by rfl, fun w => by go_simp⟩, fun _ => rfl⟩ ?_
            refine wpAnyIn_take (i := 3) (v := .pointer (some ⟨W.heap.size, 0, none⟩)) rfl rfl (by kernel_rfl) (by kernel_rfl) (by kernel_rfl) (fun _ _ _ h => h) ⟨Or.inl ⟨by rfl, fun w => by go_simp⟩, fun _ => rfl⟩ ?_
            refine wpAnyIn_ready (rs := [1, 4]) (by kernel_rfl) (by simp) (AllReadyIn.cons rfl (fun K hK => ?_) (AllReadyIn.cons rfl (fun K hK => ?_) AllReadyIn.nil))
            · go_simp
              refine hK _ _ ?_
              clear hK K
              refine wpAnyIn_take (i := 2) (v := .int .i64 m) rfl rfl (by kernel_rfl) (by kernel_rfl) (by kernel_rfl) (fun _ _ _ h => h) ⟨Or.inl ⟨by rfl, fun w => by go_simp⟩, fun _ => rfl⟩ ?_
              refine wpAnyIn_ready (rs := [4]) (by kernel_rfl) (by simp) (AllReadyIn.cons rfl (fun K hK => ?_) AllReadyIn.nil)
              go_simp
              refine hK _ _ ?_
              clear hK K
              refine wpAnyIn_ready (rs := [5]) (by kernel_rfl) (by simp) (AllReadyIn.cons rfl (fun K hK => ?_) AllReadyIn.nil)
              go_simp
              refine ⟨trivial, rfl, ((callsIn_wide (n := 0)).2 (HKO.out _)).mono ?_⟩
              rintro e w4 ⟨rfl, rfl⟩
              refine hK _ _ ?_
              clear hK K
              refine wpAnyIn_ready (rs := [6]) (by kernel_rfl) (by simp) (AllReadyIn.cons rfl (fun K hK => ?_) AllReadyIn.nil)
              go_simp
              rw [meth_kids kind hkind _ ?nm]
              case nm => kernel_rfl
              refine ⟨fun _ _ => trivial, ?_⟩
              simp only [Result.andThen]
              rw [enter_kids kind hkind]
              refine ⟨fun h => (by cases h), ((callsIn_wide (n := 0)).2 (HKI.out _)).mono ?_⟩
              rintro e w6 ⟨rfl, hb6⟩
              have hb6' : Below W3.heap.size W3 w6 := (Below.refl _ _).drew.trans hb6
              have x5 : w6.cell? ⟨W.heap.size, 2, none⟩ = some (.slice a' m cap') := (hb6'.cell (p := ⟨W.heap.size, 2, none⟩) (by show W.heap.size < _; omega)).trans y5
              refine hK _ _ ?_
              clear hK K
              refine wpAnyIn_ready (rs := [7]) (by kernel_rfl) (by simp) (AllReadyIn.cons rfl (fun K hK => ?_) AllReadyIn.nil)
              go_simp
              refine hK _ _ ?_
              clear hK K
              refine wpAnyIn_ready (rs := [8]) (by kernel_rfl) (by simp) (AllReadyIn.cons rfl (fun K hK => ?_) AllReadyIn.nil)
              go_simp
              refine ⟨trivial, rfl, ((callsIn_wide (n := 0)).2 (need_false _ t ea (HYE.out.below hb6'))).mono ?_⟩
              rintro e w7 ⟨rfl, rfl⟩
              have hp := HPAN.out HBADM.out _ hb6'
              exact ⟨hp.1, rfl, rfl, hp.2.1, hp.2.2⟩
            · go_simp
              refine hK _ _ ?_
              clear hK K
              refine wpAnyIn_ready (rs := [1, 5]) (by kernel_rfl) (by simp) (AllReadyIn.cons rfl (fun K hK => ?_) (AllReadyIn.cons rfl (fun K hK => ?_) AllReadyIn.nil))
              · go_simp
                refine hK _ _ ?_
                clear hK K
                refine wpAnyIn_take (i := 2) (v := .int .i64 m) rfl rfl (by kernel_rfl) (by kernel_rfl) (by kernel_rfl) (fun _ _ _ h => h) ⟨Or.inl ⟨by rfl, fun w => by go_simp⟩, fun _ => rfl⟩ ?_
                refine wpAnyIn_ready (rs := [5]) (by kernel_rfl) (by simp) (AllReadyIn.cons rfl (fun K hK => ?_) AllReadyIn.nil)
                go_simp
                refine ⟨trivial, rfl, ((callsIn_wide (n := 0)).2 (HKO.out _)).mono ?_⟩
                rintro e w4 ⟨rfl, rfl⟩
                refine hK _ _ ?_
                clear hK K
                refine wpAnyIn_ready (rs := [6]) (by kernel_rfl) (by simp) (AllReadyIn.cons rfl (fun K hK => ?_) AllReadyIn.nil)
                go_simp
                rw [meth_kids kind hkind _ ?nm]
                case nm => kernel_rfl
                refine ⟨fun _ _ => trivial, ?_⟩
                simp only [Result.andThen]
                rw [enter_kids kind hkind]
                refine ⟨fun h => (by cases h), ((callsIn_wide (n := 0)).2 (HKI.out _)).mono ?_⟩
                rintro e w6 ⟨rfl, hb6⟩
                have hb6' : Below W3.heap.size W3 w6 := (Below.refl _ _).drew.trans hb6
                have x5 : w6.cell? ⟨W.heap.size, 2, none⟩ = some (.slice a' m cap') := (hb6'.cell (p := ⟨W.heap.size, 2, none⟩) (by show W.heap.size < _; omega)).trans y5
                refine hK _ _ ?_
                clear hK K
                refine wpAnyIn_ready (rs := [7]) (by kernel_rfl) (by simp) (AllReadyIn.cons rfl (fun K hK => ?_) AllReadyIn.nil)
                go_simp
                refine hK _ _ ?_
                clear hK K
                refine wpAnyIn_ready (rs := [8]) (by kernel_rfl) (by simp) (AllReadyIn.cons rfl (fun K hK => ?_) AllReadyIn.nil)
                go_simp
                refine ⟨trivial, rfl, ((callsIn_wide (n := 0)).2 (need_false _ t ea (HYE.out.below hb6'))).mono ?_⟩
                rintro e w7 ⟨rfl, rfl⟩
                have hp := HPAN.out HBADM.out _ hb6'
                exact ⟨hp.1, rfl, rfl, hp.2.1, hp.2.2⟩
              · go_simp
                refine ⟨trivial, rfl, ((callsIn_wide (n := 0)).2 (HKO.out _)).mono ?_⟩
                rintro e w4 ⟨rfl, rfl⟩
                refine hK _ _ ?_
                clear hK K
                refine wpAnyIn_ready (rs := [1, 6]) (by kernel_rfl) (by simp) (AllReadyIn.cons rfl (fun K hK => ?_) (AllReadyIn.cons rfl (fun K hK => ?_) AllReadyIn.nil))
                · go_simp
                  refine hK _ _ ?_
                  clear hK K
                  refine wpAnyIn_take (i := 2) (v := .int .i64 m) rfl rfl (by kernel_rfl) (by kernel_rfl) (by kernel_rfl) (fun _ _ _ h => h) ⟨Or.inl ⟨by rfl, fun w => by go_simp⟩, fun _ => rfl⟩ ?_
                  refine wpAnyIn_ready (rs := [6]) (by kernel_rfl) (by simp) (AllReadyIn.cons rfl (fun K hK => ?_) AllReadyIn.nil)
                  go_simp
                  rw [meth_kids kind hkind _ ?nm]
                  case nm => kernel_rfl
                  refine ⟨fun _ _ => trivial, ?_⟩
                  simp only [Result.andThen]
                  rw [enter_kids kind hkind]
                  refine ⟨fun h => (by cases h), ((callsIn_wide (n := 0)).2 (HKI.out _)).mono ?_⟩
                  rintro e w6 ⟨rfl, hb6⟩
                  have hb6' : Below W3.heap.size W3 w6 := (Below.refl _ _).drew.trans hb6
                  have x5 : w6.cell? ⟨W.heap.size, 2, none⟩ = some (.slice a' m cap') := (hb6'.cell (p := ⟨W.heap.size, 2, none⟩) (by show W.heap.size < _; omega)).trans y5
                  refine hK _ _ ?_
                  clear hK K
                  refine wpAnyIn_ready (rs := [7]) (by kernel_rfl) (by simp) (AllReadyIn.cons rfl (fun K hK => ?_) AllReadyIn.nil)
                  go_simp
                  refine hK _ _ ?_
                  clear hK K
                  refine wpAnyIn_ready (rs := [8]) (by kernel_rfl) (by simp) (AllReadyIn.cons rfl (fun K hK => ?_) AllReadyIn.nil)
                  go_simp
                  refine ⟨trivial, rfl, ((callsIn_wide (n := 0)).2 (need_false _ t ea (HYE.out.below hb6'))).mono ?_⟩
                  rintro e w7 ⟨rfl, rfl⟩
                  have hp := HPAN.out HBADM.out _ hb6'
                  exact ⟨hp.1, rfl, rfl, hp.2.1, hp.2.2⟩
                · go_simp
                  rw [meth_kids kind hkind _ ?nm]
                  case nm => kernel_rfl
                  refine ⟨fun _ _ => trivial, ?_⟩
                  simp only [Result.andThen]
                  rw [enter_kids kind hkind]
                  refine ⟨fun h => (by cases h), ((callsIn_wide (n := 0)).2 (HKI.out _)).mono ?_⟩
                  rintro e w6 ⟨rfl, hb6⟩
                  have hb6' : Below W3.heap.size W3 w6 := (Below.refl _ _).drew.trans hb6
                  have x5 : w6.cell? ⟨W.heap.size, 2, none⟩ = some (.slice a' m cap') := (hb6'.cell (p := ⟨W.heap.size, 2, none⟩) (by show W.heap.size < _; omega)).trans y5
                  refine hK _ _ ?_
                  clear hK K
                  refine wpAnyIn_ready (rs := [1]) (by kernel_rfl) (by simp) (AllReadyIn.cons rfl (fun K hK => ?_) AllReadyIn.nil)
                  go_simp
                  refine hK _ _ ?_
                  clear hK K
                  refine wpAnyIn_take (i := 2) (v := .int .i64 m) rfl rfl (by kernel_rfl) (by kernel_rfl) (by kernel_rfl) (fun _ _ _ h => h) ⟨Or.inl ⟨by rfl, fun w => by go_simp⟩, fun _ => rfl⟩ ?_
                  refine wpAnyIn_ready (rs := [7]) (by kernel_rfl) (by simp) (AllReadyIn.cons rfl (fun K hK => ?_) AllReadyIn.nil)
                  go_simp
                  refine hK _ _ ?_
                  clear hK K
                  refine wpAnyIn_ready (rs := [8]) (by kernel_rfl) (by simp) (AllReadyIn.cons rfl (fun K hK => ?_) AllReadyIn.nil)
                  go_simp
                  refine ⟨trivial, rfl, ((callsIn_wide (n := 0)).2 (need_false _ t ea (HYE.out.below hb6'))).mono ?_⟩
                  rintro e w7 ⟨rfl, rfl⟩
                  have hp := HPAN.out HBADM.out _ hb6'
                  exact ⟨hp.1, rfl, rfl, hp.2.1, hp.2.2⟩
      · have HB' : Hid (¬ (d : Int) < 8) := hB
        gi_wp2_with fail
        refine ⟨trivial, rfl, (CallsIn.inRound _ ((callsIn_wide (n := 0)).2 (need_false _ t ea ((keeps_setCell W2 ⟨w.heap.size + 1, 0, none⟩ (.int .i64 (q + 1))).cell HE2.out (by show ¬ 0 = w.heap.size + 1; omega))))).mono ?_⟩
        rintro e w3 ⟨rfl, rfl⟩
        exact ⟨keeps_setCell W2 ⟨w.heap.size + 1, 0, none⟩ _, rfl, rfl, HNO6.out (fun h => by have := HB'.out; omega), HKW.out.trans (keeps_setCell W2 ⟨w.heap.size + 1, 0, none⟩ _)⟩
    · have HA' : Hid (¬ q + 1 ≤ 24) := hA
      gi_wp2_with fail
      refine ⟨trivial, rfl, (CallsIn.inRound _ ((callsIn_wide (n := 0)).2 (need_false _ t ea ((keeps_setCell W2 ⟨w.heap.size + 1, 0, none⟩ (.int .i64 (q + 1))).cell HE2.out (by show ¬ 0 = w.heap.size + 1; omega))))).mono ?_⟩
      rintro e w3 ⟨rfl, rfl⟩
      exact ⟨keeps_setCell W2 ⟨w.heap.size + 1, 0, none⟩ _, rfl, rfl, HNO6.out (fun h => by have := HA'.out; omega), HKW.out.trans (keeps_setCell W2 ⟨w.heap.size + 1, 0, none⟩ _)⟩

end Go.Proofs.YteipaaapimkfcaaDoor
