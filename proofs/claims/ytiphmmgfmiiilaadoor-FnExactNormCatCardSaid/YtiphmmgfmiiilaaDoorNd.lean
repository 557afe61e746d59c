/- The walk of newRex. -/
import Derived.Test.YtiphmmgfmiiilaaDoorDm
import Derived.Deep.CutRange
namespace Go.Proofs.YtiphmmgfmiiilaaDoor
open Go.RowKit Go.Shelf
set_option linter.unusedVariables false
set_option linter.unusedSimpArgs false

theorem box_one (w : World) (o : Obj) : (w.alloc o).drew.heap[w.heap.size]? = some o := by
  show (w.heap.push o)[w.heap.size]? = some o
  simp
theorem lt_one (w : World) (o : Obj) : w.heap.size < (w.alloc o).drew.heap.size := by
  show w.heap.size < (w.heap.push o).size
  simp
theorem enters19 : ∀ args w, (callFunc 19 args).run Tryd.prog w = .ok (.enter 19 args) w := enters_of Tryd.func19 (by kernel_rfl) rfl
theorem no_own (b : Nat) : some b ≠ Value.ownBlock (.slice none 0 0) := by simp [Value.ownBlock]
set_option maxRecDepth 100000 in
set_option maxHeartbeats 4000000 in
theorem newRex_any (S : Sh) : ∀ (M : Mx) (w : World), In AnyB w S M → cnt S ≤ 2097152 → Calls Tryd.prog 19 #[vx S M] w (OwnRes S w) := by
  induction S using Sh.ind with
  | h kind n L H m K ih =>
    intro M w h hcnt
    obtain ⟨sv, kv, M, rfl⟩ := Mx.cases M
    obtain ⟨a, b, off, cap, a', b', off', cap', e1, hn, hs, hl, e2, hm, hl', hk⟩ := h
    obtain rfl : sv = _ := e1
    obtain rfl : kv = _ := e2
    simp only [Mx.mk_kid] at hk
    simp only [vx, Sh.mk_kind, Mx.mk_sv, Mx.mk_kv]
    simp only [cnt_mk] at hcnt
    obtain ⟨W0, hW0⟩ : ∃ W0, W0 = (w.alloc (.cells #[.int .i64 kind, .slice a n cap, .slice a' m cap'] 30)).alloc (.cells #[.int .i64 0, .slice none 0 0, .slice none 0 0] 30) := ⟨_, rfl⟩
    have hB0 : Below w.heap.size w W0 := by rw [hW0]; exact ((Below.refl _ _).alloc (Nat.le_refl _) _).alloc (by simp) _
    have hs0 : W0.heap.size = w.heap.size + 2 := by rw [hW0]; simp
    have x0 : W0.cell? ⟨w.heap.size, 0, none⟩ = some (.int .i64 kind) := by rw [hW0]; simp [go_sem]
    have x1 : W0.cell? ⟨w.heap.size, 1, none⟩ = some (.slice a n cap) := by rw [hW0]; simp [go_sem]
    have x2 : W0.cell? ⟨w.heap.size, 2, none⟩ = some (.slice a' m cap') := by rw [hW0]; simp [go_sem]
    have HSP : Hid (Sp W0 b off n L H) := hs.below hB0
    have HB0 : Hid (Below w.heap.size w W0) := hB0
    have hx : ∀ V, Below W0.heap.size W0 V → V.cell? ⟨w.heap.size, 0, none⟩ = some (.int .i64 kind) ∧ V.cell? ⟨w.heap.size, 1, none⟩ = some (.slice a n cap) ∧ V.cell? ⟨w.heap.size, 2, none⟩ = some (.slice a' m cap') := fun V hb =>
      ⟨(hb.cell (p := ⟨_, _, none⟩) (World.block_lt_of_cell? _ _ x0)).trans x0, (hb.cell (p := ⟨_, _, none⟩) (World.block_lt_of_cell? _ _ x1)).trans x1, (hb.cell (p := ⟨_, _, none⟩) (World.block_lt_of_cell? _ _ x2)).trans x2⟩
    have HX : Hid (∀ V, Below W0.heap.size W0 V → V.cell? ⟨w.heap.size, 0, none⟩ = some (.int .i64 kind) ∧ V.cell? ⟨w.heap.size, 1, none⟩ = some (.slice a n cap) ∧ V.cell? ⟨w.heap.size, 2, none⟩ = some (.slice a' m cap')) := hx
    have y0 : ∀ o, (W0.alloc o).cell? ⟨w.heap.size, 0, none⟩ = some (.int .i64 kind) := fun o => (hx _ (below_new _ _)).1
    have y1 : ∀ o, (W0.alloc o).cell? ⟨w.heap.size, 1, none⟩ = some (.slice a n cap) := fun o => (hx _ (below_new _ _)).2.1
    have F1 : Hid (W0.ownsRow W0.heap.size 49 2 (.slice none 0 0) 0 []) := World.ownsRow_nil _ _ _ _
    have F2 : Hid ((W0.alloc (.cells #[.int .i64 0, .slice none 0 0, .slice none 0 0] 30)).ownsRow W0.heap.size 49 2 (.slice none 0 0) 0 []) := World.ownsRow_nil _ _ _ _
    have HRB0 : Hid (Rb W0 (w.heap.size + 1)) := by
      rw [Hid, hW0]
      have := Rb.new (w.alloc (.cells #[.int .i64 kind, .slice a n cap, .slice a' m cap'] 30)) (.int .i64 0) (.slice none 0 0) (.slice none 0 0)
      rwa [size_new] at this
    have HHK : Hid (∀ i, i < m → Kid w b' (off' + i * 3) (K i) (M i) ∧ In AnyB w (K i) (M i)) := hk
    have HS0 : Hid (W0.heap.size = w.heap.size + 2) := hs0
    clear hB0 hs hk hx hs0
    go_enter Tryd.func19, Tryd.ntmps19
    go_wp2_with fail
    rw [← hW0]
    clear hW0
    go_cut [3] from 6 (fun s3 wc => CutR kind n L H W0 s3 wc)
    case first =>
      go_region_law (first
        | (refine step_copy rfl _ _ rfl W0.heap.size (.slice none 0 0) rfl F1.out a b off cap n L H rfl (fun h => (hn h).1) (HSP.out.below (Below.refl _ _).drew) (by omega) (by simp) ?_; intro g' n' c' w' hown hgr; have T1 : True := trivial; have hbw : Below W0.heap.size W0 w' := (Below.refl W0.heap.size W0).drew.grown hgr (Nat.le_refl _) (fun k hk => by simp [Value.ownBlock] at hk); obtain ⟨p0, p1, p2⟩ := HX.out w' hbw; have q0 : ∀ o, (w'.alloc o).cell? ⟨w.heap.size, 0, none⟩ = some (.int .i64 kind) := fun o => (HX.out _ (hbw.trans ((below_new _ _).mono hbw.size))).1)
        | (refine step_copy rfl _ _ rfl W0.heap.size (.slice none 0 0) rfl F2.out a b off cap n L H rfl (fun h => (hn h).1) (HSP.out.below (below_new _ _).drew) (by omega) (by simp) ?_; intro g' n' c' w' hown hgr; have T2 : True := trivial; have hbw : Below W0.heap.size W0 w' := (below_new W0 (.cells #[.int .i64 0, .slice none 0 0, .slice none 0 0] 30)).drew.grown hgr (below_new W0 (.cells #[.int .i64 0, .slice none 0 0, .slice none 0 0] 30)).drew.size (fun k hk => by simp [Value.ownBlock] at hk); obtain ⟨p0, p1, p2⟩ := HX.out w' hbw; have q0 : ∀ o, (w'.alloc o).cell? ⟨w.heap.size, 0, none⟩ = some (.int .i64 kind) := fun o => (HX.out _ (hbw.trans ((below_new _ _).mono hbw.size))).1; obtain ⟨HBX, c0, c1, c2, cf⟩ := boxed ((hgr.block W0.heap.size (lt_one _ _) (no_own _)).trans (box_one _ _)))
        )
      all_goals go_wp2_with fail
      all_goals go_meet
      all_goals first
        | (have _t := T2; exact CutR.old hown hbw (Nat.le_refl _) HBX.out)
        | (have _t := T1; exact CutR.new hown hbw)
    case rest =>
      obtain ⟨ob, sv, rfl, hob, hbx, hset, hbw⟩ := hcut
      obtain ⟨sa, sb, soff, scap, rfl, hs1, hs2⟩ := hset
      have hobl : ob < wc.heap.size := by
        rcases Nat.lt_or_ge ob wc.heap.size with h' | h'
        · exact h'
        · simp [Array.getElem?_eq_none h'] at hbx
      have HKS0 : Hid (Ks wc ob wc.heap.size kind (.slice sa n scap) [] none 0 2097152) := ⟨hbx, World.ownsRow_nil _ _ _ _, fun q hq => (by cases hq), Nat.zero_le _, hobl⟩
      have HSET0 : Hid (SetIn (fun k => ((W0.heap.size ≤ k ∧ Soft wc k) ∧ k ≠ ob) ∧ k < wc.heap.size) wc (.slice sa n scap) n L H) := ⟨sa, sb, soff, scap, rfl, fun h => ⟨(hs1 h).1, (hs1 h).2, (hs1 h).2.1.2.lt⟩, hs2⟩
      have HBW : Hid (Below W0.heap.size W0 wc) := hbw
      clear x0 x1 y0 y1 F1 F2 HSP hbx hs1 hs2 hbw
      have x2c := (HX.out wc HBW.out).2.2
      go_wp2_with fail
      go_loopg [15] m (fun gk ix wr => ∃ (ks : List (Sh × Mx)) (g : Option Addr) (c : Nat), ix = .int .i64 (ks.length : Int) ∧ gk = m - ks.length ∧ ks.length ≤ m ∧ Ks wr ob wc.heap.size kind (.slice sa n scap) ks g c 2097152 ∧ KsOf K ks ∧ SetIn (fun k => ((W0.heap.size ≤ k ∧ Soft wr k) ∧ k ≠ ob) ∧ k < wc.heap.size) wr (.slice sa n scap) n L H ∧ Below W0.heap.size W0 wr ∧ wc.heap.size ≤ wr.heap.size)
      case atStart => exact ⟨[], none, 0, rfl, rfl, Nat.zero_le _, HKS0.out, KsOf.nil K, HSET0.out, HBW.out, Nat.le_refl _⟩
      case round =>
        clear HKS0 HSET0 HBW
        obtain ⟨ks, g, c, rfl, rfl, hkl, hks, hsum, hset, hbw, hwcr0⟩ := hrel
        have WCR : Hid (wc.heap.size ≤ wr.heap.size) := hwcr0
        clear hwcr0
        obtain ⟨v0, v1, v2, vf⟩ := hks.cells
        obtain ⟨p0, p1, p2⟩ := HX.out wr hbw
        by_cases hlt : ks.length < m
        · have hltz : (ks.length : Int) < (m : Int) := by omega
          have hi0 : (0 : Int) ≤ (ks.length : Int) := by omega
          obtain ⟨hga, _⟩ := hm (by omega)
          subst hga
          obtain ⟨⟨k0, k1, k2⟩, hink⟩ := HHK.out ks.length hlt
          have hbww : Below w.heap.size w wr := HB0.out.trans (hbw.mono HB0.out.size)
          obtain ⟨r1, r2, r3, r4, r5, r6, t1, t2⟩ := hink.slices
          have q0 : wr.cell? ⟨b', off' + ks.length * 3, none⟩ = some (.int .i64 (K ks.length).kind) := (hbww.cell (p := ⟨b', _, none⟩) (World.block_lt_of_cell? _ _ k0)).trans k0
          have q1 : wr.cell? ⟨b', off' + ks.length * 3 + 1, none⟩ = some (.slice r1 r2 r3) := (hbww.cell (p := ⟨b', _, none⟩) (World.block_lt_of_cell? _ _ k1)).trans (k1.trans (by rw [t1]))
          have q2 : wr.cell? ⟨b', off' + ks.length * 3 + 2, none⟩ = some (.slice r4 r5 r6) := (hbww.cell (p := ⟨b', _, none⟩) (World.block_lt_of_cell? _ _ k2)).trans (k2.trans (by rw [t2]))
          obtain ⟨w5, hw5⟩ : ∃ w5, w5 = wr.alloc (.cells #[.int .i64 (K ks.length).kind, .slice r1 r2 r3, .slice r4 r5 r6] 30) := ⟨_, rfl⟩
          have HB5 : Hid (Below wr.heap.size wr w5) := by rw [hw5]; exact below_new _ _
          have HK5 : Hid (Ks w5 ob wc.heap.size kind (.slice sa n scap) ks g c 2097152) := hks.below HB5.out
          have HBW5 : Hid (Below W0.heap.size W0 w5) := hbw.trans (HB5.out.mono hbw.size)
          have HBOX : Hid (w5.cell? ⟨wr.heap.size, 0, none⟩ = some (.int .i64 (K ks.length).kind) ∧ w5.cell? ⟨wr.heap.size, 1, none⟩ = some (.slice r1 r2 r3) ∧ w5.cell? ⟨wr.heap.size, 2, none⟩ = some (.slice r4 r5 r6)) := by rw [hw5]; exact ⟨by simp [go_sem], by simp [go_sem], by simp [go_sem]⟩
          have hck : cnt (K ks.length) ≤ 2097152 := by have := sumN_at (f := fun i => cnt (K i)) hlt; omega
          have HC : Hid (Calls Tryd.prog 19 #[.agg #[.int .i64 (K ks.length).kind, .slice r1 r2 r3, .slice r4 r5 r6]] w5.drew (OwnRes (K ks.length) w5.drew)) := by
            have h := ih ks.length hlt (M ks.length) w5.drew (((hink.below hbww).below HB5.out).below (Below.refl _ _).drew) hck
            rw [vx, t1, t2] at h
            exact h
          have HRET : Hid (∀ e w', OwnRes (K ks.length) w5.drew e w' → ∃ r, e = .returned r) := fun e w' ⟨M, he, _⟩ => ⟨_, he⟩
          have HKS : Hid (Ks w5.drew ob wc.heap.size kind (.slice sa n scap) ks g c 2097152) := HK5.out.below (Below.refl _ _).drew
          have HSTEP : Hid (∀ r w6, OwnRes (K ks.length) w5.drew (.returned r) w6 → ∃ (S : Sh) (M : Mx) (sa' : Option Addr) (sn sc : Nat) (ka : Option Addr) (km kc : Nat), r = .agg #[.int .i64 S.kind, .slice sa' sn sc, .slice ka km kc] ∧ wc.heap.size ≤ w6.heap.size ∧
              Hid (Ks w6 ob wc.heap.size kind (.slice sa n scap) ks g c 2097152) ∧ Hid (Below W0.heap.size W0 w6) ∧
              Hid (∀ w7, (w6.alloc (.cells #[.int .i64 S.kind, .slice sa' sn sc, .slice ka km kc] 30)).grownBy w7 (Value.ownBlock (.slice g ks.length c)) → w7.cell? ⟨ob, 2, none⟩ = some (.slice g ks.length c) ∧ w7.frozen? ⟨ob, 2, none⟩ = false) ∧
              Hid (∀ g' c' w7, w7.ownsRow wc.heap.size 30 3 (.slice (some ⟨g', 0, none⟩) (ks.length + 1) c') (ks.length + 1) (encK ks ++ [.int .i64 S.kind, .slice sa' sn sc, .slice ka km kc]) → (w6.alloc (.cells #[.int .i64 S.kind, .slice sa' sn sc, .slice ka km kc] 30)).grownBy w7 (Value.ownBlock (.slice g ks.length c)) → (some g' = Value.ownBlock (.slice g ks.length c) ∨ g' = (w6.alloc (.cells #[.int .i64 S.kind, .slice sa' sn sc, .slice ka km kc] 30)).heap.size) →
                Hid (Ks (w7.setCell ⟨ob, 2, none⟩ (.slice (some ⟨g', 0, none⟩) (ks.length + 1) c')) ob wc.heap.size kind (.slice sa n scap) (ks ++ [(S, M)]) (some ⟨g', 0, none⟩) c' 2097152 ∧ KsOf K (ks ++ [(S, M)]) ∧ SetIn (fun k => ((W0.heap.size ≤ k ∧ Soft (w7.setCell ⟨ob, 2, none⟩ (.slice (some ⟨g', 0, none⟩) (ks.length + 1) c')) k) ∧ k ≠ ob) ∧ k < wc.heap.size) (w7.setCell ⟨ob, 2, none⟩ (.slice (some ⟨g', 0, none⟩) (ks.length + 1) c')) (.slice sa n scap) n L H ∧ Below W0.heap.size W0 (w7.setCell ⟨ob, 2, none⟩ (.slice (some ⟨g', 0, none⟩) (ks.length + 1) c')) ∧ wc.heap.size ≤ (w7.setCell ⟨ob, 2, none⟩ (.slice (some ⟨g', 0, none⟩) (ks.length + 1) c')).heap.size))) := by
            rintro r w6 ⟨M1, he, ⟨hin6, hnd6⟩, hb6⟩
            obtain ⟨S, hS⟩ : ∃ S, S = K ks.length := ⟨_, rfl⟩
            rw [← hS] at he hin6 hnd6
            have hc6 : cnt S ≤ 2097152 := by rw [hS]; exact hck
            obtain ⟨sa', sn, sc, ka, km, kc, es, ek⟩ := hin6.slices
            have hv : r = vx S M1 := Ending.returned.inj he
            have hk6 := HKS.out.below hb6
            obtain ⟨X, hX⟩ : ∃ X : Obj, X = .cells #[.int .i64 S.kind, .slice sa' sn sc, .slice ka km kc] 30 := ⟨_, rfl⟩
            have hka := hk6.below (below_new w6 X)
            have hsz6 : w5.drew.heap.size ≤ w6.heap.size := hb6.size
            have hbw6 : Below W0.heap.size W0 w6 := HBW5.out.drew.trans (hb6.mono HBW5.out.drew.size)
            have hwc6 : wc.heap.size ≤ w6.heap.size := Nat.le_trans (Nat.le_trans WCR.out HB5.out.size) hb6.size
            refine ⟨S, M1, sa', sn, sc, ka, km, kc, by rw [hv, vx, es, ek], hwc6, hk6, hbw6, fun w7 hgr => ?_, fun g' c' w7 hown hgr hloc => ?_⟩
            · rw [← hX] at hgr
              have hob7 : w7.heap[ob]? = (w6.alloc X).heap[ob]? := hgr.block _ hka.lt (fun e => by rw [gB_eq] at e; have := hka.glt _ e.symm; omega)
              have hbx := hob7.trans hka.box
              exact ⟨by simp [World.cell?, hbx], by simp [World.frozen?, hbx]⟩
            · rw [← hX] at hgr hloc
              have hfar : ∀ k, k < wc.heap.size → w7.heap[k]? = w6.heap[k]? := fun k hk => (hgr.block k (by rw [size_new]; omega) (fun e => by rw [gB_eq] at e; have := hka.glt _ e.symm; omega)).trans ((below_new w6 X).block k (by omega))
              have hin7 : In (fun x => (wc.heap.size ≤ x ∧ Soft (w6.alloc X) x) ∧ gB g ≠ some x) (w6.alloc X) S M1 := (hin6.below (below_new w6 X)).mono (fun x hx => ⟨⟨Nat.le_trans (Nat.le_trans WCR.out HB5.out.size) hx.1, hx.2.below (below_new w6 X)⟩, fun e => by have := HKS.out.glt x e; omega⟩)
              have hown' : w7.ownsRow wc.heap.size 30 3 (.slice (some ⟨g', 0, none⟩) (ks.length + 1) c') (ks.length + 1) (encK ks ++ [.int .i64 S.kind, M1.sv, M1.kv]) := by rw [es, ek]; exact hown
              refine ⟨hka.push hin7 (by omega) hown' hgr hloc, ?_, ?_, ?_, by have h2 := hgr.size; rw [size_new] at h2; simp [World.setCell]; omega⟩
              · refine hsum.push hS hnd6 (fun q hq x hx hx2 => ?_)
                have h1 := ((hks.kids q hq).bl_mem x hx).1.2.lt
                have h2 := (hin6.bl_mem x hx2).1
                have h3 : wr.heap.size ≤ w5.drew.heap.size := HB5.out.size
                omega
              · obtain ⟨a2, b2, o2, c2, e2, h1, h2⟩ := hset
                have hk7 : ∀ k, k ≠ ob → k < wc.heap.size → (w7.setCell ⟨ob, 2, none⟩ (.slice (some ⟨g', 0, none⟩) (ks.length + 1) c')).heap[k]? = wr.heap[k]? := fun k hk hlt' => (Below.heap_setCell _ _ _ _ hk).trans ((hfar k hlt').trans ((hb6.block k (Nat.lt_of_lt_of_le hlt' (Nat.le_trans WCR.out HB5.out.size))).trans (HB5.out.block k (Nat.lt_of_lt_of_le hlt' WCR.out))))
                exact ⟨a2, b2, o2, c2, e2, fun h => ⟨(h1 h).1, ⟨⟨(h1 h).2.1.1.1, (h1 h).2.1.1.2.of_block (hk7 b2 (h1 h).2.1.2 (h1 h).2.2)⟩, (h1 h).2.1.2⟩, (h1 h).2.2⟩, h2.keep (B := fun k => k ≠ ob ∧ k < wc.heap.size) (fun h => ⟨(h1 h).2.1.2, (h1 h).2.2⟩) (fun k hk _ => hk7 k hk.1 hk.2)⟩
              · have hbx6 := hbw6.trans ((below_new w6 X).mono hbw6.size)
                exact (hbx6.grown hgr (by rw [size_new]; have := hbw6.size; omega) (fun k hk => by rw [gB_eq] at hk; have := hka.glt k hk; omega)).setCell hob _
          have HBW : Hid (Below W0.heap.size W0 wr) := hbw
          clear hks hset hbw k0 k1 k2 hink t1 t2 ih hsum v0 v1 v2 vf
          go_wp2_with fail
          rw [← hw5]
          clear hw5
          obtain ⟨v0, v1, v2, vf⟩ := HK5.out.cells
          obtain ⟨b0, b1, b2⟩ := HBOX.out
          go_region_law (first
            | (refine step_kid rfl _ _ rfl wc.heap.size ks.length g c (encK ks) rfl (HKS6.out.below (below_new _ _)).own w6.heap.size rfl (.int .i64 S.kind) (.slice sa' sn sc) (.slice ka km kc) (by simp [go_sem]) (by simp [go_sem]) (by simp [go_sem]) (by simp [Value.oneCell']) (by omega) (by simp; omega) ?_
               intro g' c' w7 hown' hgr hloc
               obtain ⟨s2, sf⟩ := HCELL.out w7 hgr
               have HPU := HPUSH.out g' c' w7 hown' hgr hloc
               clear hown' hgr hloc)
            | (refine step_call1 rfl 19 _ 30 rfl enters19 (.agg #[.int .i64 (K ks.length).kind, .slice r1 r2 r3, .slice r4 r5 r6]) rfl HC.out HRET.out ?_
               intro r w6 hres
               obtain ⟨S, M1, sa', sn, sc, ka, km, kc, hv6, hws6, HKS6, HBW6, HCELL, HPUSH⟩ := HSTEP.out r w6 hres
               clear hres
               subst hv6
               obtain ⟨e0, e1, e2, ef⟩ := HKS6.out.cells
               have e2a : ∀ o, (w6.alloc o).cell? ⟨ob, 2, none⟩ = some (.slice g ks.length c) := fun o => (HKS6.out.below (below_new _ _)).cells.2.2.1))
          all_goals go_wp2_with fail
          all_goals
            go_roundg (m - (ks.length + 1))
            case measure => omega
            case rel => exact ⟨ks ++ [(S, M1)], some ⟨g', 0, none⟩, c', by rw [List.length_append, List.length_singleton]; go_num, by rw [List.length_append, List.length_singleton], by rw [List.length_append, List.length_singleton]; omega, HPU.out.1, HPU.out.2.1, HPU.out.2.2.1, HPU.out.2.2.2.1, HPU.out.2.2.2.2⟩
        · have hltz : ¬ ((ks.length : Int) < (m : Int)) := by omega
          have hrb := HRB0.out.of_block (hbw.block _ HRB0.out.lt)
          obtain ⟨⟨b0', d0⟩, ⟨b1', d1⟩, ⟨b2', d2⟩, df⟩ := hrb.cells
          have hlen : ks.length = m := by omega
          have HEND : Hid (In (fun x => W0.heap.size ≤ x ∧ Soft wr x) wr (fullS kind n L H ks) (fullM (.slice sa n scap) (.slice g ks.length c) ks)) := by
            obtain ⟨a2, b2, o2, c2, e2, h1, h2⟩ := hset
            exact full_in (base := wc.heap.size) kind ⟨a2, b2, o2, c2, e2, fun h => ⟨(h1 h).1, (h1 h).2.1.1⟩, h2⟩ (by omega) (by omega) hks.own (fun q hq => (hks.kids q hq).mono (fun x hx => hx.1)) (by omega)
          have HND : Hid ((bl (fullS kind n L H ks) (fullM (.slice sa n scap) (.slice g ks.length c) ks)).Nodup) := by
            obtain ⟨a2, b2, o2, c2, e2, h1, h2⟩ := hset
            have hgs : ∃ g0, 0 < ks.length → g = some ⟨g0, 0, none⟩ := by
              rcases hks.own.2 with ⟨h, h0⟩ | ⟨g', cap', cur, e', _⟩
              · exact ⟨0, fun hh => by omega⟩
              · simp only [Value.slice.injEq] at e'
                exact ⟨g', fun _ => e'.1⟩
            obtain ⟨g0, hgs⟩ := hgs
            cases e2
            exact full_nodup (sb := b2) (soff := o2) (g0 := g0) (lo := wc.heap.size) hsum (fun h => ⟨(h1 h).1, (h1 h).2.2⟩) (fun x hx => (hks.glt x hx).1) hgs (fun q hq x hx => (fun hh => ⟨hh.1.1, hh.2⟩) ((hks.kids q hq).bl_mem x hx))
          have HFE : Hid (fullS kind n L H ks = .mk kind n L H m K) := full_eq hsum kind n L H hlen
          clear hlen
          have HBB : Hid (Below W0.heap.size W0 wr) := hbw
          clear hks hset hbw hrb hsum
          go_wp2_with fail
          refine bodyPost_ret (v := .agg #[.int .i64 kind, .slice sa n scap, .slice g ks.length c]) (by simp [results, Tryd.results19, go_sem, d0, d1, d2]) rfl ⟨fullM (.slice sa n scap) (.slice g ks.length c) ks, rfl, ⟨?_, ?_⟩, ?_⟩
          · rw [← HFE.out]
            exact (soft3 (b := w.heap.size + 1) (c := W0.heap.size) (by have := HS0.out; omega) _ _ _ HEND.out).mono (fun x hx => ⟨by omega, hx.2⟩)
          · rw [← HFE.out]; exact HND.out
          · have hb := HB0.out.trans (HBB.out.mono HB0.out.size)
            exact ((hb.setCell (by simp) _).setCell (by simp) _).setCell (by simp) _
end Go.Proofs.YtiphmmgfmiiilaaDoor

