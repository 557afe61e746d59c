/- the walk of checkRex -/
import Derived.Test.YtplpdikkkbiacaaGreatDoorTka
namespace Go.Proofs.YtplpdikkkbiacaaGreatDoor
open Go.RowKit Go.Shelf
set_option linter.unusedVariables false
set_option linter.unusedSimpArgs false
attribute [local go_sem] Oper.semAt_some

theorem keeps_setCell (W : World) (p : Addr) (u : Value) : Keeps (· = p.block) W (W.setCell p u) :=
  ⟨rfl, rfl, rfl, by simp [World.setCell], fun k _ hk => Below.heap_setCell _ _ _ _ hk⟩

set_option maxRecDepth 100000 in
set_option maxHeartbeats 4000000 in
theorem checkRex_any (S : Sh) (M : Mx) (w : World) (t : TypeId) (ea : Addr) (hE : Err w t ea) (hT : In (· < w.heap.size) w S M) (hcnt : cnt S ≤ 1048576) (ok : Bool) (HOK : Hid (okR S = ok)) :
    Calls Tryz.prog 68 #[vx S M] w (ChkRes ok t ea w) := by
  obtain ⟨sa, sn, sc, ka, km, kc, es, ek⟩ := hT.slices
  have hvx : vx S M = .agg #[.int .i64 S.kind, .slice sa sn sc, .slice ka km kc] := by rw [vx, es, ek]
  rw [hvx]
  have hgw : 1 < w.heap.size := World.block_lt_of_cell? _ _ hE
  have HE : Hid (Err w t ea) := hE
  have HT : Hid (In (· < w.heap.size) w S M) := hT
  have hk0 : Hid (M.sv = .slice sa sn sc ∧ M.kv = .slice ka km kc) := ⟨es, ek⟩
  clear es ek hvx hE hT
  refine calls_of_wpAt Tryz.func68 rfl ?_
  simp only [Tryz.ntmps68, List.size_toArray, List.length_cons, List.length_nil, Nat.reduceAdd, Nat.reduceSub, Array.replicate_succ, Array.replicate_zero, List.push_toArray, List.append_toArray, List.nil_append, List.cons_append]
  refine wpAt_seq (wpAt_of_wp ?_)
  go_wp2_with fail
  refine wpAt_seq (wpAt_of_wp ?_)
  go_wp2_with fail
  refine wpAt_seq (wpAt_of_wp ?_)
  go_wp2_with fail
  refine (partsOf_any _ S.kind sa sn sc ka km kc rfl _).mono ?_
  rintro e w1 ⟨rfl, rfl⟩
  go_wp2_with fail
  refine wpAt_block ?_
  have hb0 : Below w.heap.size w (((w.alloc (.cells #[.int .i64 S.kind, .slice sa sn sc, .slice ka km kc] 50)).alloc (.cells #[.int .i64 0] 3)).alloc (.cells #[.int .i64 S.kind, .slice sa sn sc, .slice ka km kc] 50)) :=
    (((Below.refl _ _).alloc (Nat.le_refl _) _).alloc (by simp) _).alloc (by simp; omega) _
  have m0 : (((w.alloc (.cells #[.int .i64 S.kind, .slice sa sn sc, .slice ka km kc] 50)).alloc (.cells #[.int .i64 0] 3)).alloc (.cells #[.int .i64 S.kind, .slice sa sn sc, .slice ka km kc] 50)).cell? ⟨w.heap.size + 1, 0, none⟩ = some (.int .i64 0) := by simp [go_sem]
  have f0 : (((w.alloc (.cells #[.int .i64 S.kind, .slice sa sn sc, .slice ka km kc] 50)).alloc (.cells #[.int .i64 0] 3)).alloc (.cells #[.int .i64 S.kind, .slice sa sn sc, .slice ka km kc] 50)).frozen? ⟨w.heap.size + 1, 0, none⟩ = false := by simp [go_sem]
  have hk : Kid (((w.alloc (.cells #[.int .i64 S.kind, .slice sa sn sc, .slice ka km kc] 50)).alloc (.cells #[.int .i64 0] 3)).alloc (.cells #[.int .i64 S.kind, .slice sa sn sc, .slice ka km kc] 50)) (w.heap.size + 1 + 1) 0 S M := by
    refine ⟨by simp [go_sem], ?_, ?_⟩
    · rw [hk0.out.1]; simp [go_sem]
    · rw [hk0.out.2]; simp [go_sem]
  have hsz : (((w.alloc (.cells #[.int .i64 S.kind, .slice sa sn sc, .slice ka km kc] 50)).alloc (.cells #[.int .i64 0] 3)).alloc (.cells #[.int .i64 S.kind, .slice sa sn sc, .slice ka km kc] 50)).heap.size = w.heap.size + 3 := by simp
  obtain ⟨W0, hW0⟩ : ∃ W0, (((w.alloc (.cells #[.int .i64 S.kind, .slice sa sn sc, .slice ka km kc] 50)).alloc (.cells #[.int .i64 0] 3)).alloc (.cells #[.int .i64 S.kind, .slice sa sn sc, .slice ka km kc] 50)) = W0 := ⟨_, rfl⟩
  rw [hW0] at hb0 m0 f0 hk hsz ⊢
  have hseq := parts_seq S M w.heap.size (w.heap.size + 1 + 1) W0 (by omega) (by omega) hk (HT.out.below hb0) hcnt
  have hT0 : In (· < w.heap.size) W0 S M := HT.out.below hb0
  have hall := okR_parts hT0
  rw [HOK.out] at hall
  have hE0 : Err W0 t ea := HE.out.below hb0
  clear hk hW0
  refine wpAt_rangeFunc_pan ⟨_, Tryz.func68⟩ (gf := 83) (lb := #[.pointer (some ⟨w.heap.size + 1 + 1, 0, none⟩)]) rfl (enters_of Tryz.func83 (by kernel_rfl) rfl) hseq (fun _ => rfl) (by omega)
    (· = w.heap.size + 1) (fun k hk => by omega)
    (fun pre W => Keeps (· = w.heap.size + 1) W0 W ∧ W.cell? ⟨w.heap.size + 1, 0, none⟩ = some (.int .i64 pre.length) ∧ W.frozen? ⟨w.heap.size + 1, 0, none⟩ = false ∧ Hid (pre.length ≤ 24 ∧ ∀ x ∈ pre, x.1 < 8 ∧ goodS x.2.1 = true))
    (fun ch W => ch = errChain t ea ∧ ok = false ∧ Keeps (· = w.heap.size + 1) W0 W)
    ?hI ⟨Keeps.refl _ _, by simpa using m0, f0, by simp [Hid]⟩ ?round ?done ?pan
  case hI =>
    rintro s W W' ⟨h1, h2, h3, h4⟩ hk
    exact ⟨h1.trans_new hk (fun i hi => hi.1), hk.cell h2 (by simp; omega), (hk.frozen h2 (by simp; omega)).trans h3, h4⟩
  case done =>
    rintro W ⟨h1, h2, h3, h4⟩ hD
    have hok : ok = true := hall.2 h4
    refine ⟨by simp, .inl ⟨_, _, rfl, run_takeDeferred hD, ?_⟩⟩
    refine ⟨_, results_none rfl _ _ _, .inl ⟨hok, rfl⟩, ?_⟩
    exact (hb0.trans (h1.below (m := w.heap.size) (by omega) (fun k e => by omega))).trans (belowK_b (w := W0) (by omega) W _ _ _ (Nat.le_refl _) hD rfl rfl)
  case pan =>
    rintro ch W ⟨rfl, h1, h2⟩ hD
    refine ⟨by simp, .inl ⟨_, _, rfl, run_takeDeferred hD, ?_⟩⟩
    refine ⟨.inr ⟨h1, rfl⟩, ?_⟩
    exact (hb0.trans (h2.below (m := w.heap.size) (by omega) (fun k e => by omega))).trans (belowK_b (w := W0) (by omega) W _ _ _ (Nat.le_refl _) hD rfl rfl)
  case round =>
    rintro l pre ⟨d, S', M'⟩ W hl ⟨h1, h2, h3, h4⟩ hlt hpre
    have hx : (d, S', M') ∈ partsL S 0 M := by
      obtain ⟨r, hr⟩ := hpre
      rw [← hr]; simp
    have hTx : In (· < w.heap.size) W S' M' := (parts_in hT0 hx).keeps (X := (· = w.heap.size + 1)) (fun k e => by omega) h1
    have hbad1 : ok = true → pre.length + 1 ≤ 24 ∧ d < 8 ∧ goodS S' = true := fun e => by
      obtain ⟨e1, e2⟩ := hall.1 e
      have hlen := hpre.length_le
      simp at hlen
      exact ⟨by omega, e2 _ hx⟩
    have hErr : Err W t ea := h1.cell hE0 (by show ¬ 1 = w.heap.size + 1; omega)
    obtain ⟨kind, n, L, H, m, K, rfl, _⟩ := Sh.cases S'
    obtain ⟨sv, kv, Mk, rfl⟩ := Mx.cases M'
    have HTx : Hid (In (· < w.heap.size) W (.mk kind n L H m K) (.mk sv kv Mk)) := hTx
    obtain ⟨a, b, off, cap, a', b', off', cap', e1, hn, hs, hln, e2, hm, hlm, hk⟩ := hTx
    obtain rfl : sv = _ := e1
    obtain rfl : kv = _ := e2
    simp only [encP, vx, Sh.mk_kind, Mx.mk_sv, Mx.mk_kv]
    have HBAD : Hid (ok = true → pre.length + 1 ≤ 24 ∧ d < 8 ∧ goodS (.mk kind n L H m K) = true) := hbad1
    have HALL : Hid _ := hall
    have H1 : Hid (Keeps (· = w.heap.size + 1) W0 W) := h1
    have H4 : Hid _ := h4
    have HERR : Hid (Err W t ea) := hErr
    obtain ⟨q, hq⟩ : ∃ q : Int, (pre.length : Int) = q := ⟨_, rfl⟩
    have hq0 : 0 ≤ q := by omega
    have hq1 : q ≤ 24 := by have := h4.out.1; omega
    rw [hq] at h2
    have HS : Hid (Sp W b off n L H ∧ (0 < n → a = some ⟨b, off, none⟩) ∧ n ≤ 1048576) := ⟨hs, fun h => (hn h).1, by have := parts_cnt hx; simp only [cnt_mk] at this; omega⟩
    have hd20 : (d : Int) ≤ 1048576 := by have := parts_cnt hx; simp only at this; omega
    clear hbad1 hall h1 h4 hErr hx hpre hk hs hn hm hT0 hE0 hseq hb0 m0 f0
    gi_wp2_with fail
    have hb1 : Below W.heap.size W (W.alloc (.cells #[.int .i64 kind, .slice a n cap, .slice a' m cap'] 50)) := (Below.refl _ _).alloc (Nat.le_refl _) _
    refine ⟨hb1, fun W2 hK2 hs2 => ?_⟩
    have z1 : W2.cell? ⟨w.heap.size + 1, 0, none⟩ = some (.int .i64 q) := hK2.cell ((hb1.cell (p := ⟨w.heap.size + 1, 0, none⟩) (by simp only; omega)).trans h2) (by simp only; omega)
    have z2 : W2.frozen? ⟨w.heap.size + 1, 0, none⟩ = false := (hK2.frozen ((hb1.cell (p := ⟨w.heap.size + 1, 0, none⟩) (by simp only; omega)).trans h2) (by simp only; omega)).trans ((hb1.frozen (p := ⟨w.heap.size + 1, 0, none⟩) (by simp only; omega)).trans h3)
    have z3 : W2.cell? ⟨W.heap.size, 0, none⟩ = some (.int .i64 kind) := hK2.cell (by simp [go_sem]) (by simp only; omega)
    have z4 : W2.cell? ⟨W.heap.size, 1, none⟩ = some (.slice a n cap) := hK2.cell (by simp [go_sem]) (by simp only; omega)
    have z5 : W2.cell? ⟨W.heap.size, 2, none⟩ = some (.slice a' m cap') := hK2.cell (by simp [go_sem]) (by simp only; omega)
    have hsz2 : W2.heap.size = W.heap.size + 1 := by rw [hs2]; simp
    have hE2 : Err W2 t ea := hK2.cell ((hb1.cell (p := ⟨1, 0, none⟩) (by show 1 < _; omega)).trans HERR.out) (by show ¬ 1 = _; omega)
    have hS2 : Sp W2 b off n L H := by
      refine (HS.out.1.below hb1).keep (B := fun k => k < w.heap.size) (fun h => ?_) (fun k hk1 hk2 => hK2.block k hk2 (by omega))
      obtain ⟨_, _, _, _, _, _, _, _, he1, hn1, _⟩ := HTx.out
      obtain ⟨e1, e2⟩ := hn1 h
      cases he1
      have := HS.out.2.1 h
      rw [this] at e1
      cases e1
      exact e2
    have HKW : Hid (Keeps (· = w.heap.size + 1) W0 W2) := (H1.out.trans_new (keeps_of_below (fun _ => False) hb1) (fun i hi => hi.elim)).trans_new hK2 (fun i hi => by omega)
    have HE2 : Hid (Err W2 t ea) := hE2
    have HS2 : Hid (Sp W2 b off n L H) := hS2
    have HBLK0 : Hid (∀ k, k < w.heap.size → W2.heap[k]? = W.heap[k]?) := fun k hk => (hK2.block k (by simp; omega) (by omega)).trans (hb1.block k (by omega))
    clear hK2 hs2 hE2 hS2 h2 h3 hb1
    have HNO6 : Hid (¬ (q + 1 ≤ 24 ∧ (d : Int) < 8) → ok = false) := fun h => Bool.eq_false_iff.2 (fun e => by obtain ⟨e1, e2, _⟩ := HBAD.out e; omega)
    by_cases hA : q + 1 ≤ 24
    · by_cases hB : (d : Int) < 8
      · gi_wp2_with fail
        refine ⟨trivial, rfl, (CallsIn.inRound _ ((callsIn_wide (n := 0)).2 (need_true _))).mono ?_⟩
        rintro e w3 ⟨rfl, rfl⟩
        have y1 : (W2.setCell ⟨w.heap.size + 1, 0, none⟩ (.int .i64 (q + 1))).cell? ⟨w.heap.size + 1, 0, none⟩ = some (.int .i64 (q + 1)) := World.cell?_setCell_same' _ _ _ (by rw [z1]; rfl)
        have y2 : (W2.setCell ⟨w.heap.size + 1, 0, none⟩ (.int .i64 (q + 1))).frozen? ⟨w.heap.size + 1, 0, none⟩ = false := by rw [World.frozen?_setCell]; exact z2
        have hks : Keeps (· = w.heap.size + 1) W2 (W2.setCell ⟨w.heap.size + 1, 0, none⟩ (.int .i64 (q + 1))) := keeps_setCell W2 ⟨w.heap.size + 1, 0, none⟩ (.int .i64 (q + 1))
        have y3 := hks.cell z3 (by simp only; omega)
        have y4 := hks.cell z4 (by simp only; omega)
        have y5 := hks.cell z5 (by simp only; omega)
        have yE : Err (W2.setCell ⟨w.heap.size + 1, 0, none⟩ (.int .i64 (q + 1))) t ea := hks.cell HE2.out (by show ¬ 1 = w.heap.size + 1; omega)
        have yS : Sp (W2.setCell ⟨w.heap.size + 1, 0, none⟩ (.int .i64 (q + 1))) b off n L H := by
          refine HS2.out.keep (B := fun k => k < w.heap.size) (fun h => ?_) (fun k hk1 hk2 => hks.block k hk2 (by omega))
          obtain ⟨_, _, _, _, _, _, _, _, he1, hn1, _⟩ := HTx.out
          obtain ⟨e1, e2⟩ := hn1 h
          cases he1
          have := HS.out.2.1 h
          rw [this] at e1
          cases e1
          exact e2
        obtain ⟨W3, hW3⟩ : ∃ W3, W2.setCell ⟨w.heap.size + 1, 0, none⟩ (.int .i64 (q + 1)) = W3 := ⟨_, rfl⟩
        rw [hW3] at y1 y2 y3 y4 y5 yE yS hks ⊢
        have HKS : Hid (Keeps (· = w.heap.size + 1) W2 W3) := hks
        have HYE : Hid (Err W3 t ea) := yE
        have HYS : Hid (Sp W3 b off n L H) := yS
        have hsz3 : W3.heap.size = W.heap.size + 1 := by rw [← hW3]; simp [World.setCell]; exact hsz2
        have HBLK : Hid (∀ k, k < w.heap.size → W3.heap[k]? = W.heap[k]?) := fun k hk => (hks.block k (by omega) (by omega)).trans (HBLK0.out k hk)
        clear hW3 yE yS hks z1 z2 HE2 HS2
        have HFIN : Hid (goodS (.mk kind n L H m K) = true → ∀ w', Below W3.heap.size W3 w' → Keeps (· = w.heap.size + 1) W2 w' ∧ Keeps (· = w.heap.size + 1) W0 w' ∧ w'.cell? ⟨w.heap.size + 1, 0, none⟩ = some (.int .i64 ((pre ++ [(d, Sh.mk kind n L H m K, Mx.mk (.slice a n cap) (.slice a' m cap') Mk)]).length : Nat)) ∧ w'.frozen? ⟨w.heap.size + 1, 0, none⟩ = false ∧
            Hid ((pre ++ [(d, Sh.mk kind n L H m K, Mx.mk (.slice a n cap) (.slice a' m cap') Mk)]).length ≤ 24 ∧ ∀ x ∈ pre ++ [(d, Sh.mk kind n L H m K, Mx.mk (.slice a n cap) (.slice a' m cap') Mk)], x.1 < 8 ∧ goodS x.2.1 = true)) := fun hg w' hb => by
          refine ⟨HKS.out.trans (keeps_of_below _ hb), HKW.out.trans (HKS.out.trans (keeps_of_below _ hb)), ?_, (hb.frozen (p := ⟨w.heap.size + 1, 0, none⟩) (World.block_lt_of_cell? _ _ y1)).trans y2, ?_, ?_⟩
          · rw [(hb.cell (p := ⟨w.heap.size + 1, 0, none⟩) (World.block_lt_of_cell? _ _ y1)).trans y1]
            simp only [List.length_append, List.length_cons, List.length_nil]
            congr 2; omega
          · simp only [List.length_append, List.length_cons, List.length_nil]; omega
          · intro x hx
            rcases List.mem_append.1 hx with hx | hx
            · exact H4.out.2 x hx
            · obtain rfl := List.mem_singleton.1 hx
              exact ⟨by simp only; omega, hg⟩
        have HPAN : Hid (goodS (.mk kind n L H m K) = false → ∀ w', Below W3.heap.size W3 w' → Keeps (· = w.heap.size + 1) W2 w' ∧ ok = false ∧ Keeps (· = w.heap.size + 1) W0 w') := fun hg w' hb =>
          ⟨HKS.out.trans (keeps_of_below _ hb), Bool.eq_false_iff.2 (fun e => by have := (HBAD.out e).2.2; rw [hg] at this; cases this), HKW.out.trans (HKS.out.trans (keeps_of_below _ hb))⟩
        have HCP : Hid (Calls Tryz.prog 80 #[.agg #[.int .i64 kind, .slice a n cap, .slice a' m cap']] W3 (ChkRes (goodS (.mk kind n L H m K)) t ea W3)) := by
          have hTW3 : In (· < w.heap.size) W3 (.mk kind n L H m K) (.mk (.slice a n cap) (.slice a' m cap') Mk) := HTx.out.keep (fun k hk1 hk2 => HBLK.out k hk1)
          have h := checkPart_any (.mk kind n L H m K) (.mk (.slice a n cap) (.slice a' m cap') Mk) W3 t ea HYE.out hTW3 (by have := HS.out.2.2; show n ≤ 4194304; omega)
          simp only [vx, Sh.mk_kind, Mx.mk_sv, Mx.mk_kv] at h
          exact h
        gi_wp2_with fail
        refine ⟨trivial, rfl, (CallsIn.inRound _ ((callsIn_wide (n := 0)).2 HCP.out)).mono ?_⟩
        rintro e w7 ⟨⟨hg, rfl⟩ | ⟨hg, rfl⟩, hb7⟩
        · gi_wp2_with fail
          exact HFIN.out hg _ hb7
        · have hp := HPAN.out hg _ hb7
          exact ⟨hp.1, rfl, rfl, hp.2.1, hp.2.2⟩
      · have HB' : Hid (¬ (d : Int) < 8) := hB
        gi_wp2_with fail
        refine ⟨trivial, rfl, (CallsIn.inRound _ ((callsIn_wide (n := 0)).2 (need_false _ t ea ((keeps_setCell W2 ⟨w.heap.size + 1, 0, none⟩ (.int .i64 (q + 1))).cell HE2.out (by show ¬ 1 = w.heap.size + 1; omega))))).mono ?_⟩
        rintro e w3 ⟨rfl, rfl⟩
        exact ⟨keeps_setCell W2 ⟨w.heap.size + 1, 0, none⟩ _, rfl, rfl, HNO6.out (fun h => by have := HB'.out; omega), HKW.out.trans (keeps_setCell W2 ⟨w.heap.size + 1, 0, none⟩ _)⟩
    · have HA' : Hid (¬ q + 1 ≤ 24) := hA
      gi_wp2_with fail
      refine ⟨trivial, rfl, (CallsIn.inRound _ ((callsIn_wide (n := 0)).2 (need_false _ t ea ((keeps_setCell W2 ⟨w.heap.size + 1, 0, none⟩ (.int .i64 (q + 1))).cell HE2.out (by show ¬ 1 = w.heap.size + 1; omega))))).mono ?_⟩
      rintro e w3 ⟨rfl, rfl⟩
      exact ⟨keeps_setCell W2 ⟨w.heap.size + 1, 0, none⟩ _, rfl, rfl, HNO6.out (fun h => by have := HA'.out; omega), HKW.out.trans (keeps_setCell W2 ⟨w.heap.size + 1, 0, none⟩ _)⟩

end Go.Proofs.YtplpdikkkbiacaaGreatDoor

