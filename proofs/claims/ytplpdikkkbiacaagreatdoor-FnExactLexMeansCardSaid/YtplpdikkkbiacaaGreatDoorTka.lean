/- the walk of checkPart -/
import Derived.Test.YtplpdikkkbiacaaGreatDoorTl
namespace Go.Proofs.YtplpdikkkbiacaaGreatDoor
open Go.RowKit Go.Shelf
set_option linter.unusedVariables false
set_option linter.unusedSimpArgs false
attribute [local go_sem] Oper.semAt_some

/-- what a check comes to: it returns, if the Rex is as it must be, else it panics -/
def ChkRes (ok : Bool) (t : TypeId) (ea : Addr) (w : World) (e : Ending) (w' : World) : Prop :=
  ((ok = true ∧ e = .returned (.tuple #[])) ∨ (ok = false ∧ e = .panicked (errChain t ea))) ∧ Below w.heap.size w w'

set_option maxRecDepth 100000 in
set_option maxHeartbeats 4000000 in
theorem checkPart_any {B : Nat → Prop} (S : Sh) (M : Mx) (w : World) (t : TypeId) (ea : Addr) (hE : Err w t ea) (hT : In B w S M) (hsn : S.n ≤ 4194304) :
    Calls Tryz.prog 80 #[vx S M] w (ChkRes (goodS S) t ea w) := by
  obtain ⟨kind, n, L, H, m, K, rfl, _⟩ := Sh.cases S
  obtain ⟨sv, kv, Mk, rfl⟩ := Mx.cases M
  obtain ⟨a, b, off, cap, a', b', off', cap', e1, hn, hs, hln, e2, hm, hlm, hk⟩ := hT
  obtain rfl : sv = _ := e1
  obtain rfl : kv = _ := e2
  simp only [vx, Sh.mk_kind, Mx.mk_sv, Mx.mk_kv]
  have HS : Hid (Sp w b off n L H ∧ (0 < n → a = some ⟨b, off, none⟩) ∧ n ≤ 4194304) := ⟨hs, fun h => (hn h).1, hsn⟩
  have HGS : Hid (goodS (.mk kind n L H m K) = goodB kind n L H m) := rfl
  obtain ⟨gd, HGD⟩ : ∃ gd, Hid (goodS (.mk kind n L H m K) = gd) := ⟨_, rfl⟩
  rw [HGD.out] at HGS ⊢
  obtain ⟨W3, hW3⟩ : ∃ W3, w.alloc (.cells #[.int .i64 kind, .slice a n cap, .slice a' m cap'] 50) = W3 := ⟨_, rfl⟩
  have hb0 : Below w.heap.size w W3 := by rw [← hW3]; exact (Below.refl _ _).alloc (Nat.le_refl _) _
  have hsz3 : W3.heap.size = w.heap.size + 1 := by rw [← hW3]; simp
  have y3 : W3.cell? ⟨w.heap.size, 0, none⟩ = some (.int .i64 kind) := by rw [← hW3]; simp [go_sem]
  have y4 : W3.cell? ⟨w.heap.size, 1, none⟩ = some (.slice a n cap) := by rw [← hW3]; simp [go_sem]
  have y5 : W3.cell? ⟨w.heap.size, 2, none⟩ = some (.slice a' m cap') := by rw [← hW3]; simp [go_sem]
  have HYE : Hid (Err W3 t ea) := hE.below hb0
  have HYS : Hid (Sp W3 b off n L H) := hs.below hb0
  have HB0 : Hid (Below w.heap.size w W3) := hb0
  have HFIN : Hid (gd = true → ∀ w', Below W3.heap.size W3 w' → ChkRes gd t ea w (.returned (.tuple #[])) w') := fun hg w' hb => ⟨.inl ⟨hg, rfl⟩, HB0.out.trans (hb.mono HB0.out.size)⟩
  have HPAN : Hid (gd = false → ∀ w', Below W3.heap.size W3 w' → ChkRes gd t ea w (.panicked (errChain t ea)) w') := fun hg w' hb => ⟨.inr ⟨hg, rfl⟩, HB0.out.trans (hb.mono HB0.out.size)⟩
  clear hE hs hn hm hk hb0 HGD
  refine (callsIn_wide (n := 0)).1 ?_
  refine callsIn_of_wp Tryz.func80 rfl trivial ?_
  simp only [Tryz.ntmps80, List.size_toArray, List.length_cons, List.length_nil, Nat.reduceAdd, Nat.reduceSub, Array.replicate_succ, Array.replicate_zero, List.push_toArray, List.append_toArray, List.nil_append, List.cons_append]
  gi_wp2_with fail
  clear hW3
  have hmix : Tryz.prog.follows .mixedOrders = true := by kernel_rfl
  by_cases hkind : kidsOf kind = -1
  · have HBAD : Hid (gd = false) := by rw [Hid, HGS.out]; simp [goodB, hkind]
    refine wpIn_region_any hmix ?_
    change wpAnyIn _ _ _ _ _ _ _ _ _ (World.drew _)
    refine wpAnyIn_take (i := 0) (v := .pointer (some ⟨w.heap.size, 2, none⟩)) rfl rfl (by kernel_rfl) (by kernel_rfl) (by kernel_rfl) (fun _ _ _ h => h) ⟨Or.inl ⟨by rfl, fun w => by go_simp⟩, fun _ => rfl⟩ ?_
    refine wpAnyIn_take (i := 3) (v := .pointer (some ⟨w.heap.size, 0, none⟩)) rfl rfl (by kernel_rfl) (by kernel_rfl) (by kernel_rfl) (fun _ _ _ h => h) ⟨Or.inl ⟨by rfl, fun w => by go_simp⟩, fun _ => rfl⟩ ?_
    refine wpAnyIn_ready (rs := [1, 4]) (by kernel_rfl) (by simp) (AllReadyIn.cons rfl (fun K hK => ?_) (AllReadyIn.cons rfl (fun K hK => ?_) AllReadyIn.nil))
    · go_simp
      refine hK _ _ ?_
      clear hK K
      refine wpAnyIn_take (i := 2) (v := .int .i64 m) rfl rfl (by kernel_rfl) (by kernel_rfl) (by kernel_rfl) (fun _ _ _ h => h) ⟨Or.inl ⟨by rfl, fun w => by go_simp⟩, fun _ => rfl⟩ ?_
      refine wpAnyIn_ready (rs := [4]) (by kernel_rfl) (by simp) (AllReadyIn.cons rfl (fun K hK => ?_) AllReadyIn.nil)
      go_simp
      refine hK _ _ ?_
      clear hK K
      refine wpAnyIn_ready (rs := [5]) (by kernel_rfl) (by simp) (AllReadyIn.cons rfl (fun K hK => ?_) AllReadyIn.nil)
      go_simp
      refine ⟨trivial, rfl, ((callsIn_wide (n := 0)).2 (kindOf_bad kind hkind _ t ea (HYE.out.below (Below.refl _ _).drew))).mono ?_⟩
      rintro e w4 ⟨rfl, rfl⟩
      exact ⟨rfl, HPAN.out HBAD.out _ (Below.refl _ _).drew⟩
    · go_simp
      refine hK _ _ ?_
      clear hK K
      refine wpAnyIn_ready (rs := [1, 5]) (by kernel_rfl) (by simp) (AllReadyIn.cons rfl (fun K hK => ?_) (AllReadyIn.cons rfl (fun K hK => ?_) AllReadyIn.nil))
      · go_simp
        refine hK _ _ ?_
        clear hK K
        refine wpAnyIn_take (i := 2) (v := .int .i64 m) rfl rfl (by kernel_rfl) (by kernel_rfl) (by kernel_rfl) (fun _ _ _ h => h) ⟨Or.inl ⟨by rfl, fun w => by go_simp⟩, fun _ => rfl⟩ ?_
        refine wpAnyIn_ready (rs := [5]) (by kernel_rfl) (by simp) (AllReadyIn.cons rfl (fun K hK => ?_) AllReadyIn.nil)
        go_simp
        refine ⟨trivial, rfl, ((callsIn_wide (n := 0)).2 (kindOf_bad kind hkind _ t ea (HYE.out.below (Below.refl _ _).drew))).mono ?_⟩
        rintro e w4 ⟨rfl, rfl⟩
        exact ⟨rfl, HPAN.out HBAD.out _ (Below.refl _ _).drew⟩
      · go_simp
        refine ⟨trivial, rfl, ((callsIn_wide (n := 0)).2 (kindOf_bad kind hkind _ t ea (HYE.out.below (Below.refl _ _).drew))).mono ?_⟩
        rintro e w4 ⟨rfl, rfl⟩
        exact ⟨rfl, HPAN.out HBAD.out _ (Below.refl _ _).drew⟩
  · have HKO : Hid (∀ w, Calls Tryz.prog 85 #[.int .i64 kind] w fun e w' => e = .returned (.iface (kindT kind) (.agg #[])) ∧ w' = w) := kindOf_ok kind hkind
    have HKI : Hid (∀ w, Calls Tryz.prog (kidsF kind) #[.agg #[]] w fun e w' => e = .returned (.int .i64 (kidsOf kind)) ∧ Below w.heap.size w w') := kids_ok kind hkind
    by_cases hkm : kidsOf kind = m
    · have HGOOD : Hid (kind = 1 → okB n L H = true → gd = true) := fun e1 e2 => by rw [HGS.out, goodB, hkm, e2]; simp [e1]
      have HGOOD0 : Hid (n = 0 → gd = true) := fun e1 => by rw [HGS.out]; subst e1; simp [goodB, hkm, okB]
      have HBADO : Hid (okB n L H = false → gd = false) := fun e1 => by rw [HGS.out]; simp [goodB, e1]
      have HBADN : Hid (kind ≠ 1 → n ≠ 0 → gd = false) := fun e1 e2 => by rw [HGS.out]; simp [goodB, e1, e2]
      rw [hkm] at HKI
      clear hkm
      refine wpIn_region_any hmix ?_
      change wpAnyIn _ _ _ _ _ _ _ _ _ (World.drew _)
      refine wpAnyIn_take (i := 0) (v := .pointer (some ⟨w.heap.size, 2, none⟩)) rfl rfl (by kernel_rfl) (by kernel_rfl) (by kernel_rfl) (fun _ _ _ h => h) ⟨Or.inl ⟨by rfl, fun w => by go_simp⟩, fun _ => rfl⟩ ?_
      refine wpAnyIn_take (i := 3) (v := .pointer (some ⟨w.heap.size, 0, none⟩)) rfl rfl (by kernel_rfl) (by kernel_rfl) (by kernel_rfl) (fun _ _ _ h => h) ⟨Or.inl ⟨by rfl, fun w => by go_simp⟩, fun _ => rfl⟩ ?_
      refine wpAnyIn_ready (rs := [1, 4]) (by kernel_rfl) (by simp) (AllReadyIn.cons rfl (fun K hK => ?_) (AllReadyIn.cons rfl (fun K hK => ?_) AllReadyIn.nil))
      · go_simp
        refine hK _ _ ?_
        clear hK K
        refine wpAnyIn_take (i := 2) (v := .int .i64 m) rfl rfl (by kernel_rfl) (by kernel_rfl) (by kernel_rfl) (fun _ _ _ h => h) ⟨Or.inl ⟨by rfl, fun w => by go_simp⟩, fun _ => rfl⟩ ?_
        refine wpAnyIn_ready (rs := [4]) (by kernel_rfl) (by simp) (AllReadyIn.cons rfl (fun K hK => ?_) AllReadyIn.nil)
        go_simp
        refine hK _ _ ?_
        clear hK K
        refine wpAnyIn_ready (rs := [5]) (by kernel_rfl) (by simp) (AllReadyIn.cons rfl (fun K hK => ?_) AllReadyIn.nil)
        go_simp
        refine ⟨trivial, rfl, ((callsIn_wide (n := 0)).2 (HKO.out _)).mono ?_⟩
        rintro e w4 ⟨rfl, rfl⟩
        refine hK _ _ ?_
        clear hK K
        refine wpAnyIn_ready (rs := [6]) (by kernel_rfl) (by simp) (AllReadyIn.cons rfl (fun K hK => ?_) AllReadyIn.nil)
        go_simp
        rw [meth_kids kind hkind _ ?nm]
        case nm => kernel_rfl
        refine ⟨fun _ _ => trivial, ?_⟩
        simp only [Result.andThen]
        rw [enter_kids kind hkind]
        refine ⟨fun h => (by cases h), ((callsIn_wide (n := 0)).2 (HKI.out _)).mono ?_⟩
        rintro e w6 ⟨rfl, hb6⟩
        have hb6' : Below W3.heap.size W3 w6 := (Below.refl _ _).drew.trans hb6
        have x5 : w6.cell? ⟨w.heap.size, 2, none⟩ = some (.slice a' m cap') := (hb6'.cell (p := ⟨w.heap.size, 2, none⟩) (by show w.heap.size < _; omega)).trans y5
        refine hK _ _ ?_
        clear hK K
        refine wpAnyIn_ready (rs := [7]) (by kernel_rfl) (by simp) (AllReadyIn.cons rfl (fun K hK => ?_) AllReadyIn.nil)
        go_simp
        refine hK _ _ ?_
        clear hK K
        refine wpAnyIn_ready (rs := [8]) (by kernel_rfl) (by simp) (AllReadyIn.cons rfl (fun K hK => ?_) AllReadyIn.nil)
        go_simp
        refine ⟨trivial, rfl, ((callsIn_wide (n := 0)).2 (need_true _)).mono ?_⟩
        rintro e w7 ⟨rfl, hw7⟩
        subst w7
        refine hK _ _ ?_
        clear hK K
        refine wpAnyIn_done (by kernel_rfl) ?_ _
        have x4 : w6.cell? ⟨w.heap.size, 1, none⟩ = some (.slice a n cap) := (hb6'.cell (p := ⟨w.heap.size, 1, none⟩) (by show w.heap.size < _; omega)).trans y4
        have x3 : w6.cell? ⟨w.heap.size, 0, none⟩ = some (.int .i64 kind) := (hb6'.cell (p := ⟨w.heap.size, 0, none⟩) (by show w.heap.size < _; omega)).trans y3
        by_cases hone : kind = 1
        · have hk1 : (kind == 1) = true := by simpa using hone
          have HONE : Hid (kind = 1) := hone
          clear hone
          gi_wp2_with fail
          refine ⟨trivial, rfl, ((callsIn_wide (n := 0)).2 (implSetOk_any a b off cap n L H w6 HS.out.2.1 (HYS.out.below hb6') (by have := HS.out.2.2; omega))).mono ?_⟩
          rintro e w8 ⟨rfl, hb8⟩
          have hb8' : Below W3.heap.size W3 w8 := hb6'.trans (hb8.mono hb6'.size)
          by_cases hok : okB n L H = true
          · rw [hok]
            have HG : Hid (gd = true) := HGOOD.out HONE.out hok
            clear hok
            gi_wp2_with fail
            refine ⟨trivial, rfl, ((callsIn_wide (n := 0)).2 (need_true _)).mono ?_⟩
            rintro e w9 ⟨rfl, rfl⟩
            gi_wp2_with fail
            go_end0
            exact HFIN.out HG.out _ hb8'
          · have hok' : okB n L H = false := Bool.eq_false_iff.2 hok
            rw [hok']
            have HG : Hid (gd = false) := HBADO.out hok'
            clear hok hok'
            gi_wp2_with fail
            refine ⟨trivial, rfl, ((callsIn_wide (n := 0)).2 (need_false _ t ea (HYE.out.below hb8'))).mono ?_⟩
            rintro e w9 ⟨rfl, rfl⟩
            exact ⟨rfl, HPAN.out HG.out _ hb8'⟩
        · have hk1 : (kind == 1) = false := by simpa using hone
          have HONE : Hid (kind ≠ 1) := hone
          clear hone
          by_cases hn0 : n = 0
          · have hnz : ((n : Int) == 0) = true := by simp; omega
            have HN0 : Hid (n = 0) := hn0
            clear hn0
            gi_wp2_with fail
            refine ⟨trivial, rfl, ((callsIn_wide (n := 0)).2 (need_true _)).mono ?_⟩
            rintro e w9 ⟨rfl, rfl⟩
            gi_wp2_with fail
            go_end0
            exact HFIN.out (HGOOD0.out HN0.out) _ hb6'
          · have hnz : ((n : Int) == 0) = false := by simp; omega
            have hnz' : ¬ n = 0 := hn0
            have HN0 : Hid (n ≠ 0) := hn0
            clear hn0
            gi_wp2_with fail
            refine ⟨trivial, rfl, ((callsIn_wide (n := 0)).2 (need_false _ t ea (HYE.out.below hb6'))).mono ?_⟩
            rintro e w9 ⟨rfl, rfl⟩
            exact ⟨rfl, HPAN.out (HBADN.out HONE.out HN0.out) _ hb6'⟩
      · go_simp
        refine hK _ _ ?_
        clear hK K
        refine wpAnyIn_ready (rs := [1, 5]) (by kernel_rfl) (by simp) (AllReadyIn.cons rfl (fun K hK => ?_) (AllReadyIn.cons rfl (fun K hK => ?_) AllReadyIn.nil))
        · go_simp
          refine hK _ _ ?_
          clear hK K
          refine wpAnyIn_take (i := 2) (v := .int .i64 m) rfl rfl (by kernel_rfl) (by kernel_rfl) (by kernel_rfl) (fun _ _ _ h => h) ⟨Or.inl ⟨by rfl, fun w => by go_simp⟩, fun _ => rfl⟩ ?_
          refine wpAnyIn_ready (rs := [5]) (by kernel_rfl) (by simp) (AllReadyIn.cons rfl (fun K hK => ?_) AllReadyIn.nil)
          go_simp
          refine ⟨trivial, rfl, ((callsIn_wide (n := 0)).2 (HKO.out _)).mono ?_⟩
          rintro e w4 ⟨rfl, rfl⟩
          refine hK _ _ ?_
          clear hK K
          refine wpAnyIn_ready (rs := [6]) (by kernel_rfl) (by simp) (AllReadyIn.cons rfl (fun K hK => ?_) AllReadyIn.nil)
          go_simp
          rw [meth_kids kind hkind _ ?nm]
          case nm => kernel_rfl
          refine ⟨fun _ _ => trivial, ?_⟩
          simp only [Result.andThen]
          rw [enter_kids kind hkind]
          refine ⟨fun h => (by cases h), ((callsIn_wide (n := 0)).2 (HKI.out _)).mono ?_⟩
          rintro e w6 ⟨rfl, hb6⟩
          have hb6' : Below W3.heap.size W3 w6 := (Below.refl _ _).drew.trans hb6
          have x5 : w6.cell? ⟨w.heap.size, 2, none⟩ = some (.slice a' m cap') := (hb6'.cell (p := ⟨w.heap.size, 2, none⟩) (by show w.heap.size < _; omega)).trans y5
          refine hK _ _ ?_
          clear hK K
          refine wpAnyIn_ready (rs := [7]) (by kernel_rfl) (by simp) (AllReadyIn.cons rfl (fun K hK => ?_) AllReadyIn.nil)
          go_simp
          refine hK _ _ ?_
          clear hK K
          refine wpAnyIn_ready (rs := [8]) (by kernel_rfl) (by simp) (AllReadyIn.cons rfl (fun K hK => ?_) AllReadyIn.nil)
          go_simp
          refine ⟨trivial, rfl, ((callsIn_wide (n := 0)).2 (need_true _)).mono ?_⟩
          rintro e w7 ⟨rfl, hw7⟩
          subst w7
          refine hK _ _ ?_
          clear hK K
          refine wpAnyIn_done (by kernel_rfl) ?_ _
          have x4 : w6.cell? ⟨w.heap.size, 1, none⟩ = some (.slice a n cap) := (hb6'.cell (p := ⟨w.heap.size, 1, none⟩) (by show w.heap.size < _; omega)).trans y4
          have x3 : w6.cell? ⟨w.heap.size, 0, none⟩ = some (.int .i64 kind) := (hb6'.cell (p := ⟨w.heap.size, 0, none⟩) (by show w.heap.size < _; omega)).trans y3
          by_cases hone : kind = 1
          · have hk1 : (kind == 1) = true := by simpa using hone
            have HONE : Hid (kind = 1) := hone
            clear hone
            gi_wp2_with fail
            refine ⟨trivial, rfl, ((callsIn_wide (n := 0)).2 (implSetOk_any a b off cap n L H w6 HS.out.2.1 (HYS.out.below hb6') (by have := HS.out.2.2; omega))).mono ?_⟩
            rintro e w8 ⟨rfl, hb8⟩
            have hb8' : Below W3.heap.size W3 w8 := hb6'.trans (hb8.mono hb6'.size)
            by_cases hok : okB n L H = true
            · rw [hok]
              have HG : Hid (gd = true) := HGOOD.out HONE.out hok
              clear hok
              gi_wp2_with fail
              refine ⟨trivial, rfl, ((callsIn_wide (n := 0)).2 (need_true _)).mono ?_⟩
              rintro e w9 ⟨rfl, rfl⟩
              gi_wp2_with fail
              go_end0
              exact HFIN.out HG.out _ hb8'
            · have hok' : okB n L H = false := Bool.eq_false_iff.2 hok
              rw [hok']
              have HG : Hid (gd = false) := HBADO.out hok'
              clear hok hok'
              gi_wp2_with fail
              refine ⟨trivial, rfl, ((callsIn_wide (n := 0)).2 (need_false _ t ea (HYE.out.below hb8'))).mono ?_⟩
              rintro e w9 ⟨rfl, rfl⟩
              exact ⟨rfl, HPAN.out HG.out _ hb8'⟩
          · have hk1 : (kind == 1) = false := by simpa using hone
            have HONE : Hid (kind ≠ 1) := hone
            clear hone
            by_cases hn0 : n = 0
            · have hnz : ((n : Int) == 0) = true := by simp; omega
              have HN0 : Hid (n = 0) := hn0
              clear hn0
              gi_wp2_with fail
              refine ⟨trivial, rfl, ((callsIn_wide (n := 0)).2 (need_true _)).mono ?_⟩
              rintro e w9 ⟨rfl, rfl⟩
              gi_wp2_with fail
              go_end0
              exact HFIN.out (HGOOD0.out HN0.out) _ hb6'
            · have hnz : ((n : Int) == 0) = false := by simp; omega
              have hnz' : ¬ n = 0 := hn0
              have HN0 : Hid (n ≠ 0) := hn0
              clear hn0
              gi_wp2_with fail
              refine ⟨trivial, rfl, ((callsIn_wide (n := 0)).2 (need_false _ t ea (HYE.out.below hb6'))).mono ?_⟩
              rintro e w9 ⟨rfl, rfl⟩
              exact ⟨rfl, HPAN.out (HBADN.out HONE.out HN0.out) _ hb6'⟩
        · go_simp
          refine ⟨trivial, rfl, ((callsIn_wide (n := 0)).2 (HKO.out _)).mono ?_⟩
          rintro e w4 ⟨rfl, rfl⟩
          refine hK _ _ ?_
          clear hK K
          refine wpAnyIn_ready (rs := [1, 6]) (by kernel_rfl) (by simp) (AllReadyIn.cons rfl (fun K hK => ?_) (AllReadyIn.cons rfl (fun K hK => ?_) AllReadyIn.nil))
          · go_simp
            refine hK _ _ ?_
            clear hK K
            refine wpAnyIn_take (i := 2) (v := .int .i64 m) rfl rfl (by kernel_rfl) (by kernel_rfl) (by kernel_rfl) (fun _ _ _ h => h) ⟨Or.inl ⟨by rfl, fun w => by go_simp⟩, fun _ => rfl⟩ ?_
            refine wpAnyIn_ready (rs := [6]) (by kernel_rfl) (by simp) (AllReadyIn.cons rfl (fun K hK => ?_) AllReadyIn.nil)
            go_simp
            rw [meth_kids kind hkind _ ?nm]
            case nm => kernel_rfl
            refine ⟨fun _ _ => trivial, ?_⟩
            simp only [Result.andThen]
            rw [enter_kids kind hkind]
            refine ⟨fun h => (by cases h), ((callsIn_wide (n := 0)).2 (HKI.out _)).mono ?_⟩
            rintro e w6 ⟨rfl, hb6⟩
            have hb6' : Below W3.heap.size W3 w6 := (Below.refl _ _).drew.trans hb6
            have x5 : w6.cell? ⟨w.heap.size, 2, none⟩ = some (.slice a' m cap') := (hb6'.cell (p := ⟨w.heap.size, 2, none⟩) (by show w.heap.size < _; omega)).trans y5
            refine hK _ _ ?_
            clear hK K
            refine wpAnyIn_ready (rs := [7]) (by kernel_rfl) (by simp) (AllReadyIn.cons rfl (fun K hK => ?_) AllReadyIn.nil)
            go_simp
            refine hK _ _ ?_
            clear hK K
            refine wpAnyIn_ready (rs := [8]) (by kernel_rfl) (by simp) (AllReadyIn.cons rfl (fun K hK => ?_) AllReadyIn.nil)
            go_simp
            refine ⟨trivial, rfl, ((callsIn_wide (n := 0)).2 (need_true _)).mono ?_⟩
            rintro e w7 ⟨rfl, hw7⟩
            subst w7
            refine hK _ _ ?_
            clear hK K
            refine wpAnyIn_done (by kernel_rfl) ?_ _
            have x4 : w6.cell? ⟨w.heap.size, 1, none⟩ = some (.slice a n cap) := (hb6'.cell (p := ⟨w.heap.size, 1, none⟩) (by show w.heap.size < _; omega)).trans y4
            have x3 : w6.cell? ⟨w.heap.size, 0, none⟩ = some (.int .i64 kind) := (hb6'.cell (p := ⟨w.heap.size, 0, none⟩) (by show w.heap.size < _; omega)).trans y3
            by_cases hone : kind = 1
            · have hk1 : (kind == 1) = true := by simpa using hone
              have HONE : Hid (kind = 1) := hone
              clear hone
              gi_wp2_with fail
              refine ⟨trivial, rfl, ((callsIn_wide (n := 0)).2 (implSetOk_any a b off cap n L H w6 HS.out.2.1 (HYS.out.below hb6') (by have := HS.out.2.2; omega))).mono ?_⟩
              rintro e w8 ⟨rfl, hb8⟩
              have hb8' : Below W3.heap.size W3 w8 := hb6'.trans (hb8.mono hb6'.size)
              by_cases hok : okB n L H = true
              · rw [hok]
                have HG : Hid (gd = true) := HGOOD.out HONE.out hok
                clear hok
                gi_wp2_with fail
                refine ⟨trivial, rfl, ((callsIn_wide (n := 0)).2 (need_true _)).mono ?_⟩
                rintro e w9 ⟨rfl, rfl⟩
                gi_wp2_with fail
                go_end0
                exact HFIN.out HG.out _ hb8'
              · have hok' : okB n L H = false := Bool.eq_false_iff.2 hok
                rw [hok']
                have HG : Hid (gd = false) := HBADO.out hok'
                clear hok hok'
                gi_wp2_with fail
                refine ⟨trivial, rfl, ((callsIn_wide (n := 0)).2 (need_false _ t ea (HYE.out.below hb8'))).mono ?_⟩
                rintro e w9 ⟨rfl, rfl⟩
                exact ⟨rfl, HPAN.out HG.out _ hb8'⟩
            · have hk1 : (kind == 1) = false := by simpa using hone
              have HONE : Hid (kind ≠ 1) := hone
              clear hone
              by_cases hn0 : n = 0
              · have hnz : ((n : Int) == 0) = true := by simp; omega
                have HN0 : Hid (n = 0) := hn0
                clear hn0
                gi_wp2_with fail
                refine ⟨trivial, rfl, ((callsIn_wide (n := 0)).2 (need_true _)).mono ?_⟩
                rintro e w9 ⟨rfl, rfl⟩
                gi_wp2_with fail
                go_end0
                exact HFIN.out (HGOOD0.out HN0.out) _ hb6'
              · have hnz : ((n : Int) == 0) = false := by simp; omega
                have hnz' : ¬ n = 0 := hn0
                have HN0 : Hid (n ≠ 0) := hn0
                clear hn0
                gi_wp2_with fail
                refine ⟨trivial, rfl, ((callsIn_wide (n := 0)).2 (need_false _ t ea (HYE.out.below hb6'))).mono ?_⟩
                rintro e w9 ⟨rfl, rfl⟩
                exact ⟨rfl, HPAN.out (HBADN.out HONE.out HN0.out) _ hb6'⟩
          · go_simp
            rw [meth_kids kind hkind _ ?nm]
            case nm => kernel_rfl
            refine ⟨fun _ _ => trivial, ?_⟩
            simp only [Result.andThen]
            rw [enter_kids kind hkind]
            refine ⟨fun h => (by cases h), ((callsIn_wide (n := 0)).2 (HKI.out _)).mono ?_⟩
            rintro e w6 ⟨rfl, hb6⟩
            have hb6' : Below W3.heap.size W3 w6 := (Below.refl _ _).drew.trans hb6
            have x5 : w6.cell? ⟨w.heap.size, 2, none⟩ = some (.slice a' m cap') := (hb6'.cell (p := ⟨w.heap.size, 2, none⟩) (by show w.heap.size < _; omega)).trans y5
            refine hK _ _ ?_
            clear hK K
            refine wpAnyIn_ready (rs := [1]) (by kernel_rfl) (by simp) (AllReadyIn.cons rfl (fun K hK => ?_) AllReadyIn.nil)
            go_simp
            refine hK _ _ ?_
            clear hK K
            refine wpAnyIn_take (i := 2) (v := .int .i64 m) rfl rfl (by kernel_rfl) (by kernel_rfl) (by kernel_rfl) (fun _ _ _ h => h) ⟨Or.inl ⟨by rfl, fun w => by go_simp⟩, fun _ => rfl⟩ ?_
            refine wpAnyIn_ready (rs := [7]) (by kernel_rfl) (by simp) (AllReadyIn.cons rfl (fun K hK => ?_) AllReadyIn.nil)
            go_simp
            refine hK _ _ ?_
            clear hK K
            refine wpAnyIn_ready (rs := [8]) (by kernel_rfl) (by simp) (AllReadyIn.cons rfl (fun K hK => ?_) AllReadyIn.nil)
            go_simp
            refine ⟨trivial, rfl, ((callsIn_wide (n := 0)).2 (need_true _)).mono ?_⟩
            rintro e w7 ⟨rfl, hw7⟩
            subst w7
            refine hK _ _ ?_
            clear hK K
            refine wpAnyIn_done (by kernel_rfl) ?_ _
            have x4 : w6.cell? ⟨w.heap.size, 1, none⟩ = some (.slice a n cap) := (hb6'.cell (p := ⟨w.heap.size, 1, none⟩) (by show w.heap.size < _; omega)).trans y4
            have x3 : w6.cell? ⟨w.heap.size, 0, none⟩ = some (.int .i64 kind) := (hb6'.cell (p := ⟨w.heap.size, 0, none⟩) (by show w.heap.size < _; omega)).trans y3
            by_cases hone : kind = 1
            · have hk1 : (kind == 1) = true := by simpa using hone
              have HONE : Hid (kind = 1) := hone
              clear hone
              gi_wp2_with fail
              refine ⟨trivial, rfl, ((callsIn_wide (n := 0)).2 (implSetOk_any a b off cap n L H w6 HS.out.2.1 (HYS.out.below hb6') (by have := HS.out.2.2; omega))).mono ?_⟩
              rintro e w8 ⟨rfl, hb8⟩
              have hb8' : Below W3.heap.size W3 w8 := hb6'.trans (hb8.mono hb6'.size)
              by_cases hok : okB n L H = true
              · rw [hok]
                have HG : Hid (gd = true) := HGOOD.out HONE.out hok
                clear hok
                gi_wp2_with fail
                refine ⟨trivial, rfl, ((callsIn_wide (n := 0)).2 (need_true _)).mono ?_⟩
                rintro e w9 ⟨rfl, rfl⟩
                gi_wp2_with fail
                go_end0
                exact HFIN.out HG.out _ hb8'
              · have hok' : okB n L H = false := Bool.eq_false_iff.2 hok
                rw [hok']
                have HG : Hid (gd = false) := HBADO.out hok'
                clear hok hok'
                gi_wp2_with fail
                refine ⟨trivial, rfl, ((callsIn_wide (n := 0)).2 (need_false _ t ea (HYE.out.below hb8'))).mono ?_⟩
                rintro e w9 ⟨rfl, rfl⟩
                exact ⟨rfl, HPAN.out HG.out _ hb8'⟩
            · have hk1 : (kind == 1) = false := by simpa using hone
              have HONE : Hid (kind ≠ 1) := hone
              clear hone
              by_cases hn0 : n = 0
              · have hnz : ((n : Int) == 0) = true := by simp; omega
                have HN0 : Hid (n = 0) := hn0
                clear hn0
                gi_wp2_with fail
                refine ⟨trivial, rfl, ((callsIn_wide (n := 0)).2 (need_true _)).mono ?_⟩
                rintro e w9 ⟨rfl, rfl⟩
                gi_wp2_with fail
                go_end0
                exact HFIN.out (HGOOD0.out HN0.out) _ hb6'
              · have hnz : ((n : Int) == 0) = false := by simp; omega
                have hnz' : ¬ n = 0 := hn0
                have HN0 : Hid (n ≠ 0) := hn0
                clear hn0
                gi_wp2_with fail
                refine ⟨trivial, rfl, ((callsIn_wide (n := 0)).2 (need_false _ t ea (HYE.out.below hb6'))).mono ?_⟩
                rintro e w9 ⟨rfl, rfl⟩
                exact ⟨rfl, HPAN.out (HBADN.out HONE.out HN0.out) _ hb6'⟩
    · have HBAD : Hid (gd = false) := by rw [Hid, HGS.out]; simp [goodB, hkm]
      have hne : ((m : Int) == kidsOf kind) = false := by simp; omega
      clear hkm
      refine wpIn_region_any hmix ?_
      change wpAnyIn _ _ _ _ _ _ _ _ _ (World.drew _)
      refine wpAnyIn_take (i := 0) (v := .pointer (some ⟨w.heap.size, 2, none⟩)) rfl rfl (by kernel_rfl) (by kernel_rfl) (by kernel_rfl) (fun _ _ _ h => h) ⟨Or.inl ⟨by rfl, fun w => by go_simp⟩, fun _ => rfl⟩ ?_
      refine wpAnyIn_take (i := 3) (v := .pointer (some ⟨w.heap.size, 0, none⟩)) rfl rfl (by kernel_rfl) (by kernel_rfl) (by kernel_rfl) (fun _ _ _ h => h) ⟨Or.inl ⟨by rfl, fun w => by go_simp⟩, fun _ => rfl⟩ ?_
      refine wpAnyIn_ready (rs := [1, 4]) (by kernel_rfl) (by simp) (AllReadyIn.cons rfl (fun K hK => ?_) (AllReadyIn.cons rfl (fun K hK => ?_) AllReadyIn.nil))
      · go_simp
        refine hK _ _ ?_
        clear hK K
        refine wpAnyIn_take (i := 2) (v := .int .i64 m) rfl rfl (by kernel_rfl) (by kernel_rfl) (by kernel_rfl) (fun _ _ _ h => h) ⟨Or.inl ⟨by rfl, fun w => by go_simp⟩, fun _ => rfl⟩ ?_
        refine wpAnyIn_ready (rs := [4]) (by kernel_rfl) (by simp) (AllReadyIn.cons rfl (fun K hK => ?_) AllReadyIn.nil)
        go_simp
        refine hK _ _ ?_
        clear hK K
        refine wpAnyIn_ready (rs := [5]) (by kernel_rfl) (by simp) (AllReadyIn.cons rfl (fun K hK => ?_) AllReadyIn.nil)
        go_simp
        refine ⟨trivial, rfl, ((callsIn_wide (n := 0)).2 (HKO.out _)).mono ?_⟩
        rintro e w4 ⟨rfl, rfl⟩
        refine hK _ _ ?_
        clear hK K
        refine wpAnyIn_ready (rs := [6]) (by kernel_rfl) (by simp) (AllReadyIn.cons rfl (fun K hK => ?_) AllReadyIn.nil)
        go_simp
        rw [meth_kids kind hkind _ ?nm]
        case nm => kernel_rfl
        refine ⟨fun _ _ => trivial, ?_⟩
        simp only [Result.andThen]
        rw [enter_kids kind hkind]
        refine ⟨fun h => (by cases h), ((callsIn_wide (n := 0)).2 (HKI.out _)).mono ?_⟩
        rintro e w6 ⟨rfl, hb6⟩
        have hb6' : Below W3.heap.size W3 w6 := (Below.refl _ _).drew.trans hb6
        have x5 : w6.cell? ⟨w.heap.size, 2, none⟩ = some (.slice a' m cap') := (hb6'.cell (p := ⟨w.heap.size, 2, none⟩) (by show w.heap.size < _; omega)).trans y5
        refine hK _ _ ?_
        clear hK K
        refine wpAnyIn_ready (rs := [7]) (by kernel_rfl) (by simp) (AllReadyIn.cons rfl (fun K hK => ?_) AllReadyIn.nil)
        go_simp
        refine hK _ _ ?_
        clear hK K
        refine wpAnyIn_ready (rs := [8]) (by kernel_rfl) (by simp) (AllReadyIn.cons rfl (fun K hK => ?_) AllReadyIn.nil)
        go_simp
        refine ⟨trivial, rfl, ((callsIn_wide (n := 0)).2 (need_false _ t ea (HYE.out.below hb6'))).mono ?_⟩
        rintro e w7 ⟨rfl, rfl⟩
        exact ⟨rfl, HPAN.out HBAD.out _ hb6'⟩
      · go_simp
        refine hK _ _ ?_
        clear hK K
        refine wpAnyIn_ready (rs := [1, 5]) (by kernel_rfl) (by simp) (AllReadyIn.cons rfl (fun K hK => ?_) (AllReadyIn.cons rfl (fun K hK => ?_) AllReadyIn.nil))
        · go_simp
          refine hK _ _ ?_
          clear hK K
          refine wpAnyIn_take (i := 2) (v := .int .i64 m) rfl rfl (by kernel_rfl) (by kernel_rfl) (by kernel_rfl) (fun _ _ _ h => h) ⟨Or.inl ⟨by rfl, fun w => by go_simp⟩, fun _ => rfl⟩ ?_
          refine wpAnyIn_ready (rs := [5]) (by kernel_rfl) (by simp) (AllReadyIn.cons rfl (fun K hK => ?_) AllReadyIn.nil)
          go_simp
          refine ⟨trivial, rfl, ((callsIn_wide (n := 0)).2 (HKO.out _)).mono ?_⟩
          rintro e w4 ⟨rfl, rfl⟩
          refine hK _ _ ?_
          clear hK K
          refine wpAnyIn_ready (rs := [6]) (by kernel_rfl) (by simp) (AllReadyIn.cons rfl (fun K hK => ?_) AllReadyIn.nil)
          go_simp
          rw [meth_kids kind hkind _ ?nm]
          case nm => kernel_rfl
          refine ⟨fun _ _ => trivial, ?_⟩
          simp only [Result.andThen]
          rw [enter_kids kind hkind]
          refine ⟨fun h => (by cases h), ((callsIn_wide (n := 0)).2 (HKI.out _)).mono ?_⟩
          rintro e w6 ⟨rfl, hb6⟩
          have hb6' : Below W3.heap.size W3 w6 := (Below.refl _ _).drew.trans hb6
          have x5 : w6.cell? ⟨w.heap.size, 2, none⟩ = some (.slice a' m cap') := (hb6'.cell (p := ⟨w.heap.size, 2, none⟩) (by show w.heap.size < _; omega)).trans y5
          refine hK _ _ ?_
          clear hK K
          refine wpAnyIn_ready (rs := [7]) (by kernel_rfl) (by simp) (AllReadyIn.cons rfl (fun K hK => ?_) AllReadyIn.nil)
          go_simp
          refine hK _ _ ?_
          clear hK K
          refine wpAnyIn_ready (rs := [8]) (by kernel_rfl) (by simp) (AllReadyIn.cons rfl (fun K hK => ?_) AllReadyIn.nil)
          go_simp
          refine ⟨trivial, rfl, ((callsIn_wide (n := 0)).2 (need_false _ t ea (HYE.out.below hb6'))).mono ?_⟩
          rintro e w7 ⟨rfl, rfl⟩
          exact ⟨rfl, HPAN.out HBAD.out _ hb6'⟩
        · go_simp
          refine ⟨trivial, rfl, ((callsIn_wide (n := 0)).2 (HKO.out _)).mono ?_⟩
          rintro e w4 ⟨rfl, rfl⟩
          refine hK _ _ ?_
          clear hK K
          refine wpAnyIn_ready (rs := [1, 6]) (by kernel_rfl) (by simp) (AllReadyIn.cons rfl (fun K hK => ?_) (AllReadyIn.cons rfl (fun K hK => ?_) AllReadyIn.nil))
          · go_simp
            refine hK _ _ ?_
            clear hK K
            refine wpAnyIn_take (i := 2) (v := .int .i64 m) rfl rfl (by kernel_rfl) (by kernel_rfl) (by kernel_rfl) (fun _ _ _ h => h) ⟨Or.inl ⟨by rfl, fun w => by go_simp⟩, fun _ => rfl⟩ ?_
            refine wpAnyIn_ready (rs := [6]) (by kernel_rfl) (by simp) (AllReadyIn.cons rfl (fun K hK => ?_) AllReadyIn.nil)
            go_simp
            rw [meth_kids kind hkind _ ?nm]
            case nm => kernel_rfl
            refine ⟨fun _ _ => trivial, ?_⟩
            simp only [Result.andThen]
            rw [enter_kids kind hkind]
            refine ⟨fun h => (by cases h), ((callsIn_wide (n := 0)).2 (HKI.out _)).mono ?_⟩
            rintro e w6 ⟨rfl, hb6⟩
            have hb6' : Below W3.heap.size W3 w6 := (Below.refl _ _).drew.trans hb6
            have x5 : w6.cell? ⟨w.heap.size, 2, none⟩ = some (.slice a' m cap') := (hb6'.cell (p := ⟨w.heap.size, 2, none⟩) (by show w.heap.size < _; omega)).trans y5
            refine hK _ _ ?_
            clear hK K
            refine wpAnyIn_ready (rs := [7]) (by kernel_rfl) (by simp) (AllReadyIn.cons rfl (fun K hK => ?_) AllReadyIn.nil)
            go_simp
            refine hK _ _ ?_
            clear hK K
            refine wpAnyIn_ready (rs := [8]) (by kernel_rfl) (by simp) (AllReadyIn.cons rfl (fun K hK => ?_) AllReadyIn.nil)
            go_simp
            refine ⟨trivial, rfl, ((callsIn_wide (n := 0)).2 (need_false _ t ea (HYE.out.below hb6'))).mono ?_⟩
            rintro e w7 ⟨rfl, rfl⟩
            exact ⟨rfl, HPAN.out HBAD.out _ hb6'⟩
          · go_simp
            rw [meth_kids kind hkind _ ?nm]
            case nm => kernel_rfl
            refine ⟨fun _ _ => trivial, ?_⟩
            simp only [Result.andThen]
            rw [enter_kids kind hkind]
            refine ⟨fun h => (by cases h), ((callsIn_wide (n := 0)).2 (HKI.out _)).mono ?_⟩
            rintro e w6 ⟨rfl, hb6⟩
            have hb6' : Below W3.heap.size W3 w6 := (Below.refl _ _).drew.trans hb6
            have x5 : w6.cell? ⟨w.heap.size, 2, none⟩ = some (.slice a' m cap') := (hb6'.cell (p := ⟨w.heap.size, 2, none⟩) (by show w.heap.size < _; omega)).trans y5
            refine hK _ _ ?_
            clear hK K
            refine wpAnyIn_ready (rs := [1]) (by kernel_rfl) (by simp) (AllReadyIn.cons rfl (fun K hK => ?_) AllReadyIn.nil)
            go_simp
            refine hK _ _ ?_
            clear hK K
            refine wpAnyIn_take (i := 2) (v := .int .i64 m) rfl rfl (by kernel_rfl) (by kernel_rfl) (by kernel_rfl) (fun _ _ _ h => h) ⟨Or.inl ⟨by rfl, fun w => by go_simp⟩, fun _ => rfl⟩ ?_
            refine wpAnyIn_ready (rs := [7]) (by kernel_rfl) (by simp) (AllReadyIn.cons rfl (fun K hK => ?_) AllReadyIn.nil)
            go_simp
            refine hK _ _ ?_
            clear hK K
            refine wpAnyIn_ready (rs := [8]) (by kernel_rfl) (by simp) (AllReadyIn.cons rfl (fun K hK => ?_) AllReadyIn.nil)
            go_simp
            refine ⟨trivial, rfl, ((callsIn_wide (n := 0)).2 (need_false _ t ea (HYE.out.below hb6'))).mono ?_⟩
            rintro e w7 ⟨rfl, rfl⟩
            exact ⟨rfl, HPAN.out HBAD.out _ hb6'⟩
end Go.Proofs.YtplpdikkkbiacaaGreatDoor

