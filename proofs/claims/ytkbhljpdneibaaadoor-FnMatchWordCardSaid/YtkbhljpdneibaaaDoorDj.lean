/- The walk of l2Rex. -/
import Derived.Test.YtkbhljpdneibaaaDoorDk
namespace Go.Proofs.YtkbhljpdneibaaaDoor
open Go.RowKit
set_option linter.unusedVariables false
set_option linter.unusedSimpArgs false

/-- how many draws at most, and how great, by the depth -/
def DD : Nat → Nat
  | 0 => 9
  | d + 1 => 20 + 2 * DD d
def CC : Nat → Nat
  | 0 => 256
  | d + 1 => 260 + 2 * CC d

set_option maxRecDepth 100000 in
set_option maxHeartbeats 4000000 in
theorem l2Rex_any (d : Nat) : ∀ (rb p : Nat) (w : World), d ≤ 1000 → p + DD d ≤ 700000 → Rdr w rb p → Calls Tryd.prog 53 #[.pointer (some ⟨rb, 0, none⟩), .int .i64 (d : Int)] w (RexRes (DD d) (CC d) rb p w) := by
  induction d with
  | zero =>
    intro rb p w hd hp h
    have hrl := h.lt
    have HCC : Hid (CC 0 = 256) := rfl
    have HDD : Hid (DD 0 = 9) := rfl
    simp only [DD] at hp
    obtain ⟨W0, hW0⟩ : ∃ W0, W0 = w.alloc (.cells #[.int .i64 0, .slice none 0 0, .slice none 0 0] 26) := ⟨_, rfl⟩
    have hb0 : Below w.heap.size w W0 := by rw [hW0]; exact below_new _ _
    have HRB0 : Hid (Rb W0 w.heap.size) := by rw [Hid, hW0]; exact Rb.new _ _ _ _
    have HG0 : Hid (w.grownBy W0 (some rb)) := grown_of_below hb0
    have HR0 : Hid (Rdr W0 rb p) := h.below hb0
    have hle : ((0 : Nat) : Int) ≤ 1 := by omega
    clear hb0 h
    go_enter Tryd.func53, Tryd.ntmps53
    go_wp2_with fail
    rw [← hW0]
    clear hW0
    refine (l2Leaf_any rb (p) (by omega) _ HR0.out).mono ?_
    rintro e w6 ⟨S, M, p6, rfl, hin6, hc6, hp6, hr6, hg6⟩
    have hsX : w.heap.size < W0.heap.size := HRB0.out.lt
    have HIN6 : Hid (In (fun k => W0.heap.size ≤ k ∧ Soft w6 k) w6 S M) := hin6
    have HRB6 : Hid (Rb w6 w.heap.size) := HRB0.out.of_block (hg6.block _ HRB0.out.lt (by simp; omega))
    have HG6 : Hid (w.grownBy w6 (some rb)) := HG0.out.trans hg6
    have HR6 : Hid (Rdr w6 rb p6) := hr6
    obtain ⟨sa, sn, sc, ka, km, kc, es, ek⟩ := hin6.slices
    have HV6 : Hid (vx S M = .agg #[.int .i64 S.kind, .slice sa sn sc, .slice ka km kc]) := by rw [Hid, vx, es, ek]
    rw [HV6.out]
    obtain ⟨⟨b0', d0⟩, ⟨b1', d1⟩, ⟨b2', d2⟩, df⟩ := HRB6.out.cells
    clear hin6 hg6 hr6 es ek
    go_wp2_with fail
    refine bodyPost_ret (v := .agg #[.int .i64 S.kind, .slice sa sn sc, .slice ka km kc]) (by simp [results, Tryd.results53, go_sem, d0, d1, d2]) rfl ?_
    rw [← HV6.out]
    exact RexRes.of (soft3 hsX _ _ _ HIN6.out) (by rw [HCC.out]; omega) (p' := p6) (by rw [HDD.out]; omega) (rdr3 HR6.out (by omega) _ _ _) (grown3 HG6.out (Nat.le_refl _) _ _ _)
  | succ d ih =>
    intro rb p w hd hp h
    have hrl := h.lt
    have HCC : Hid (CC (d + 1) = 260 + 2 * CC d) := rfl
    have HDD : Hid (DD (d + 1) = 20 + 2 * DD d) := rfl
    simp only [DD] at hp
    obtain ⟨W0, hW0⟩ : ∃ W0, W0 = w.alloc (.cells #[.int .i64 0, .slice none 0 0, .slice none 0 0] 26) := ⟨_, rfl⟩
    have hb0 : Below w.heap.size w W0 := by rw [hW0]; exact below_new _ _
    have HRB0 : Hid (Rb W0 w.heap.size) := by rw [Hid, hW0]; exact Rb.new _ _ _ _
    have HG0 : Hid (w.grownBy W0 (some rb)) := grown_of_below hb0
    have HR0 : Hid (Rdr W0 rb p) := h.below hb0
    clear hb0 h
    by_cases hd0 : d = 0
    · have hle : ((d + 1 : Nat) : Int) ≤ 1 := by omega
      go_enter Tryd.func53, Tryd.ntmps53
      go_wp2_with fail
      rw [← hW0]
      clear hW0
      refine (l2Leaf_any rb (p) (by omega) _ HR0.out).mono ?_
      rintro e w6 ⟨S, M, p6, rfl, hin6, hc6, hp6, hr6, hg6⟩
      have hsX : w.heap.size < W0.heap.size := HRB0.out.lt
      have HIN6 : Hid (In (fun k => W0.heap.size ≤ k ∧ Soft w6 k) w6 S M) := hin6
      have HRB6 : Hid (Rb w6 w.heap.size) := HRB0.out.of_block (hg6.block _ HRB0.out.lt (by simp; omega))
      have HG6 : Hid (w.grownBy w6 (some rb)) := HG0.out.trans hg6
      have HR6 : Hid (Rdr w6 rb p6) := hr6
      obtain ⟨sa, sn, sc, ka, km, kc, es, ek⟩ := hin6.slices
      have HV6 : Hid (vx S M = .agg #[.int .i64 S.kind, .slice sa sn sc, .slice ka km kc]) := by rw [Hid, vx, es, ek]
      rw [HV6.out]
      obtain ⟨⟨b0', d0⟩, ⟨b1', d1⟩, ⟨b2', d2⟩, df⟩ := HRB6.out.cells
      clear hin6 hg6 hr6 es ek
      go_wp2_with fail
      refine bodyPost_ret (v := .agg #[.int .i64 S.kind, .slice sa sn sc, .slice ka km kc]) (by simp [results, Tryd.results53, go_sem, d0, d1, d2]) rfl ?_
      rw [← HV6.out]
      exact RexRes.of (soft3 hsX _ _ _ HIN6.out) (by rw [HCC.out]; omega) (p' := p6) (by rw [HDD.out]; omega) (rdr3 HR6.out (by omega) _ _ _) (grown3 HG6.out (Nat.le_refl _) _ _ _)
    · have hle : decide (((d + 1 : Nat) : Int) ≤ 1) = false := decide_eq_false (by omega)
      have hle2 : decide ((d : Int) + 1 ≤ 1) = false := decide_eq_false (by omega)
      have hdz0 : (0 : Int) ≤ (d : Int) := by omega
      have hdz1 : (d : Int) ≤ 1000 := by omega
      go_enter Tryd.func53, Tryd.ntmps53
      go_wp2_with fail
      rw [← hW0]
      clear hW0
      refine (pick_any rb p (by omega) 4 (by omega) (by omega) _ HR0.out).mono ?_
      rintro e w1 ⟨i, rfl, ⟨i0, i1, i2⟩, hr, hg⟩
      have i3 : i < 4 := i1 (by omega)
      have HRB1 : Hid (Rb w1 w.heap.size) := HRB0.out.of_block (hg.block _ HRB0.out.lt (by simp; omega))
      have HG1 : Hid (w.grownBy w1 (some rb)) := HG0.out.trans hg
      have HR1 : Hid (Rdr w1 rb (p + 1)) := hr
      clear hr hg HG0 HRB0 HR0 i1 i2
      have hcase : i = 0 ∨ 1 ≤ i := by omega
      rcases hcase with rfl | h1
      · go_wp2_with fail
        refine (l2Leaf_any rb (p + 1) (by omega) _ HR1.out).mono ?_
        rintro e w6 ⟨S, M, p6, rfl, hin6, hc6, hp6, hr6, hg6⟩
        have hsX : w.heap.size < w1.heap.size := HRB1.out.lt
        have HIN6 : Hid (In (fun k => w1.heap.size ≤ k ∧ Soft w6 k) w6 S M) := hin6
        have HRB6 : Hid (Rb w6 w.heap.size) := HRB1.out.of_block (hg6.block _ HRB1.out.lt (by simp; omega))
        have HG6 : Hid (w.grownBy w6 (some rb)) := HG1.out.trans hg6
        have HR6 : Hid (Rdr w6 rb p6) := hr6
        obtain ⟨sa, sn, sc, ka, km, kc, es, ek⟩ := hin6.slices
        have HV6 : Hid (vx S M = .agg #[.int .i64 S.kind, .slice sa sn sc, .slice ka km kc]) := by rw [Hid, vx, es, ek]
        rw [HV6.out]
        obtain ⟨⟨b0', d0⟩, ⟨b1', d1⟩, ⟨b2', d2⟩, df⟩ := HRB6.out.cells
        clear hin6 hg6 hr6 es ek
        go_wp2_with fail
        refine bodyPost_ret (v := .agg #[.int .i64 S.kind, .slice sa sn sc, .slice ka km kc]) (by simp [results, Tryd.results53, go_sem, d0, d1, d2]) rfl ?_
        rw [← HV6.out]
        exact RexRes.of (soft3 hsX _ _ _ HIN6.out) (by rw [HCC.out]; omega) (p' := p6) (by rw [HDD.out]; omega) (rdr3 HR6.out (by omega) _ _ _) (grown3 HG6.out (Nat.le_refl _) _ _ _)
      · have z0 : (i == 0) = false := by simp; omega
        have hrl1 := HR1.out.lt
        have HN : Hid (Calls Tryd.prog 30 #[.pointer (some ⟨rb, 0, none⟩), .slice (some ⟨w1.heap.size, 0, none⟩) 9 9] (w1.alloc (.cells #[.int .i64 3, .int .i64 3, .int .i64 3, .int .i64 4, .int .i64 4, .int .i64 5, .int .i64 5, .int .i64 6, .int .i64 7] 3)) (OneRes (fun i => .int .i64 (kind9 i)) 9 rb (p + 1) (w1.alloc (.cells #[.int .i64 3, .int .i64 3, .int .i64 3, .int .i64 4, .int .i64 4, .int .i64 5, .int .i64 5, .int .i64 6, .int .i64 7] 3)))) :=
          num_any rb (p + 1) (by omega) w1.heap.size 9 9 kind9 (by omega) (by omega) _ (HR1.out.below (below_new _ _)) (by omega) (fun i hi => new_cell _ _ _ _ _ (kind9_at i hi))
        go_wp2_with fail
        refine HN.out.mono ?_
        rintro e w2 ⟨j, hj, rfl, hr2, hg2⟩
        obtain ⟨kind, hkind⟩ : ∃ kind, kind = kind9 j := ⟨_, rfl⟩
        have hkb := kind9_bd j hj
        rw [← hkind] at hkb
        simp only [← hkind]
        clear hkind HN
        obtain ⟨W3, hW3⟩ : ∃ W3, W3 = w2.alloc (.cells #[.int .i64 kind, .slice none 0 0, .slice none 0 0] 26) := ⟨_, rfl⟩
        have hb3 : Below w2.heap.size w2 W3 := by rw [hW3]; exact below_new _ _
        have hs3 : W3.heap.size = w2.heap.size + 1 := by rw [hW3]; exact size_new _ _
        have HRB2 : Hid (Rb w2 w.heap.size) := (HRB1.out.of_block ((below_new w1 _).block _ HRB1.out.lt)).of_block (hg2.block _ (by rw [size_new]; have := HRB1.out.lt; omega) (by simp; omega))
        have HKS : Hid (Ks W3 w2.heap.size (w2.heap.size + 1) kind (.slice none 0 0) [] none 0 (CC d)) := by
          refine ⟨?_, World.ownsRow_nil _ _ _ _, fun q hq => (by cases hq), Nat.zero_le _, by omega⟩
          rw [hW3]; show (w2.heap.push _)[w2.heap.size]? = _; simp
        have HRB3 : Hid (Rb W3 w.heap.size) := HRB2.out.of_block (hb3.block _ HRB2.out.lt)
        have HR3 : Hid (Rdr W3 rb (p + 2)) := hr2.below hb3
        have HG3 : Hid (w.grownBy W3 (some rb)) := ((HG1.out.trans (grown_of_below (below_new _ _))).trans hg2).trans (grown_of_below hb3)
        have hob : w.heap.size < w2.heap.size := HRB2.out.lt
        clear HRB2 hr2 hg2 HR1 HG1 HRB1 hb3
        go_wp2_with fail
        rw [← hW3]
        clear hW3
        refine (l2Kids5_any kind hkb.1 hkb.2 _).mono ?_
        rintro e w4 ⟨rfl, hw4⟩
        subst w4
        obtain ⟨n, hn⟩ : ∃ n : Nat, (n : Int) = kid5 kind := ⟨(kid5 kind).toNat, by unfold kid5; split <;> rfl⟩
        have hn2 : n ≤ 2 := by unfold kid5 at hn; split at hn <;> omega
        rw [← hn]
        clear hn
        go_wp2_with fail
        go_loopg [7] n (fun gk ix wr => ∃ (ks : List (Sh × Mx)) (p' : Nat) (g : Option Addr) (c : Nat), ix = .int .i64 (gk : Int) ∧ gk + ks.length ≤ 2 ∧ p' + gk * DD d ≤ p + 2 + 2 * DD d ∧ Ks wr w2.heap.size (w2.heap.size + 1) kind (.slice none 0 0) ks g c (CC d) ∧ Rdr wr rb p' ∧ w.grownBy wr (some rb) ∧ Rb wr w.heap.size)
        case atStart => exact ⟨[], p + 2, none, 0, rfl, by simp; omega, by have := Nat.mul_le_mul_right (DD d) hn2; omega, HKS.out, HR3.out, HG3.out, HRB3.out⟩
        case round =>
          clear HKS HR3 HG3 HRB3 hn2
          obtain ⟨ks, p', g, c, rfl, hk2, hp', hks, hr, hg, hrb⟩ := hrel
          obtain ⟨b0, b1, b2, bf⟩ := hks.cells
          cases gk with
          | zero =>
            have HKS : Hid (Ks wr w2.heap.size (w2.heap.size + 1) kind (.slice none 0 0) ks g c (CC d)) := hks
            have HR : Hid (Rdr wr rb p') := hr
            have HG : Hid (w.grownBy wr (some rb)) := hg
            have HRB : Hid (Rb wr w.heap.size) := hrb
            obtain ⟨⟨b0', d0⟩, ⟨b1', d1⟩, ⟨b2', d2⟩, df⟩ := hrb.cells
            clear hks hr hg hrb
            go_wp2_with fail
            refine bodyPost_ret (v := .agg #[.int .i64 kind, .slice none 0 0, .slice g ks.length c]) (by simp [results, Tryd.results53, go_sem, d0, d1, d2]) rfl ?_
            have hin := node_in kind HKS.out.own (fun q hq => (HKS.out.kids q hq).mono (fun x hx => hx.1)) (by omega)
            exact RexRes.of (S := nodeS kind ks) (M := nodeM (.slice g ks.length c) ks) (soft3 (by omega) _ _ _ hin) (by rw [node_cnt, HCC.out]; have := HKS.out.cnts; have := Nat.mul_le_mul_right (CC d) (show ks.length ≤ 2 by omega); omega) (p' := p') (by rw [HDD.out]; omega) (rdr3 HR.out (by omega) _ _ _) (grown3 HG.out (Nat.le_refl _) _ _ _)
          | succ k =>
            have hz : (0 : Int) < ((k + 1 : Nat) : Int) := by omega
            have HC : Hid (Calls Tryd.prog 53 #[.pointer (some ⟨rb, 0, none⟩), .int .i64 (d : Int)] wr.drew (RexRes (DD d) (CC d) rb p' wr.drew)) := ih rb p' wr.drew (by omega) (by rw [Nat.succ_mul] at hp'; omega) (hr.below (Below.refl _ _).drew)
            have HKS : Hid (Ks wr.drew w2.heap.size (w2.heap.size + 1) kind (.slice none 0 0) ks g c (CC d)) := hks.below (Below.refl _ _).drew
            have HG : Hid (w.grownBy wr.drew (some rb)) := hg.trans (grown_of_below (Below.refl _ _).drew)
            have HRB : Hid (Rb wr.drew w.heap.size) := hrb.of_block rfl
            have HRET : Hid (∀ e w', RexRes (DD d) (CC d) rb p' wr.drew e w' → ∃ r, e = .returned r) := fun e w' ⟨S, M, p6, he, _⟩ => ⟨_, he⟩
            have hrbo : rb < w2.heap.size := by omega
            have hws : w2.heap.size < wr.drew.heap.size := HKS.out.lt
            have HSTEP : Hid (∀ r w6, RexRes (DD d) (CC d) rb p' wr.drew (.returned r) w6 → ∃ (S : Sh) (M : Mx) (p6 : Nat) (sa : Option Addr) (sn sc : Nat) (ka : Option Addr) (km kc : Nat), r = .agg #[.int .i64 S.kind, .slice sa sn sc, .slice ka km kc] ∧ cnt S ≤ CC d ∧ p6 ≤ p' + DD d ∧ w2.heap.size < w6.heap.size ∧
                Hid (Ks w6 w2.heap.size (w2.heap.size + 1) kind (.slice none 0 0) ks g c (CC d)) ∧ Hid (Rdr w6 rb p6 ∧ w.grownBy w6 (some rb) ∧ Rb w6 w.heap.size) ∧
                Hid (∀ w7, (w6.alloc (.cells #[.int .i64 S.kind, .slice sa sn sc, .slice ka km kc] 26)).grownBy w7 (Value.ownBlock (.slice g ks.length c)) → w7.cell? ⟨w2.heap.size, 2, none⟩ = some (.slice g ks.length c) ∧ w7.frozen? ⟨w2.heap.size, 2, none⟩ = false) ∧
                Hid (∀ g' c' w7, w7.ownsRow (w2.heap.size + 1) 26 3 (.slice (some ⟨g', 0, none⟩) (ks.length + 1) c') (ks.length + 1) (encK ks ++ [.int .i64 S.kind, .slice sa sn sc, .slice ka km kc]) → (w6.alloc (.cells #[.int .i64 S.kind, .slice sa sn sc, .slice ka km kc] 26)).grownBy w7 (Value.ownBlock (.slice g ks.length c)) → (some g' = Value.ownBlock (.slice g ks.length c) ∨ g' = (w6.alloc (.cells #[.int .i64 S.kind, .slice sa sn sc, .slice ka km kc] 26)).heap.size) →
                  Hid (Ks (w7.setCell ⟨w2.heap.size, 2, none⟩ (.slice (some ⟨g', 0, none⟩) (ks.length + 1) c')) w2.heap.size (w2.heap.size + 1) kind (.slice none 0 0) (ks ++ [(S, M)]) (some ⟨g', 0, none⟩) c' (CC d) ∧ Rdr (w7.setCell ⟨w2.heap.size, 2, none⟩ (.slice (some ⟨g', 0, none⟩) (ks.length + 1) c')) rb p6 ∧ w.grownBy (w7.setCell ⟨w2.heap.size, 2, none⟩ (.slice (some ⟨g', 0, none⟩) (ks.length + 1) c')) (some rb) ∧ Rb (w7.setCell ⟨w2.heap.size, 2, none⟩ (.slice (some ⟨g', 0, none⟩) (ks.length + 1) c')) w.heap.size))) := by
              rintro r w6 ⟨S, M, p6, he, hin6, hc6, hp6, hr6, hg6⟩
              obtain ⟨sa, sn, sc, ka, km, kc, es, ek⟩ := hin6.slices
              have hv : r = vx S M := Ending.returned.inj he
              have hk6 : Ks w6 w2.heap.size (w2.heap.size + 1) kind (.slice none 0 0) ks g c (CC d) := HKS.out.grown hg6 hrbo
              obtain ⟨X, hX⟩ : ∃ X : Obj, X = .cells #[.int .i64 S.kind, .slice sa sn sc, .slice ka km kc] 26 := ⟨_, rfl⟩
              have hka := hk6.below (below_new w6 X)
              have hsz6 : wr.drew.heap.size ≤ w6.heap.size := hg6.size
              have hrb6 : Rb w6 w.heap.size := HRB.out.of_block (hg6.block _ HRB.out.lt (by simp; omega))
              have hgr6 : w.grownBy w6 (some rb) := HG.out.trans hg6
              refine ⟨S, M, p6, sa, sn, sc, ka, km, kc, by rw [hv, vx, es, ek], hc6, hp6, hk6.lt, hk6, ⟨hr6, hgr6, hrb6⟩, fun w7 hgr => ?_, fun g' c' w7 hown hgr hloc => ?_⟩
              · rw [← hX] at hgr
                have hob7 : w7.heap[w2.heap.size]? = (w6.alloc X).heap[w2.heap.size]? := hgr.block _ hka.lt (fun e => by rw [gB_eq] at e; have := hka.glt _ e.symm; omega)
                have hbx := hob7.trans hka.box
                exact ⟨by simp [World.cell?, hbx], by simp [World.frozen?, hbx]⟩
              · rw [← hX] at hgr hloc
                have hfar : ∀ k, k ≤ w2.heap.size → w7.heap[k]? = w6.heap[k]? := fun k hk => (hgr.block k (by rw [size_new]; omega) (fun e => by rw [gB_eq] at e; have := hka.glt _ e.symm; omega)).trans ((below_new w6 X).block k (by omega))
                have hin7 : In (fun x => (w2.heap.size + 1 ≤ x ∧ Soft (w6.alloc X) x) ∧ gB g ≠ some x) (w6.alloc X) S M := (hin6.below (below_new w6 X)).mono (fun x hx => ⟨⟨by omega, hx.2.below (below_new w6 X)⟩, fun e => by have := HKS.out.glt x e; omega⟩)
                have hown' : w7.ownsRow (w2.heap.size + 1) 26 3 (.slice (some ⟨g', 0, none⟩) (ks.length + 1) c') (ks.length + 1) (encK ks ++ [.int .i64 S.kind, M.sv, M.kv]) := by rw [es, ek]; exact hown
                refine ⟨hka.push hin7 hc6 hown' hgr hloc, ?_, ?_, ?_⟩
                · exact (hr6.keep (fun k hk => hfar k (by omega))).set (by omega) _ _
                · exact ⟨hgr.os.trans hgr6.os, hgr.tape.trans hgr6.tape, hgr.output.trans hgr6.output, by have h1 := hgr6.size; have h2 := hgr.size; rw [size_new] at h2; simp [World.setCell]; omega, fun k hk hne => (Below.heap_setCell _ _ _ _ (by simp; omega)).trans ((hfar k (by omega)).trans (hgr6.block k hk hne))⟩
                · exact hrb6.of_block ((Below.heap_setCell _ _ _ _ (by simp; omega)).trans (hfar _ (by omega)))
            clear hks hr hg hrb ih
            have hwd : IntKind.i64.wrap (d : Int) = (d : Int) := by rw [IntKind.wrap_i64]; omega
            go_wp2_with fail
            go_region_law (first
              | (refine step_kid rfl _ _ rfl (w2.heap.size + 1) ks.length g c (encK ks) rfl (HKS6.out.below (below_new _ _)).own w6.heap.size rfl (.int .i64 S.kind) (.slice sa sn sc) (.slice ka km kc) (by simp [go_sem]) (by simp [go_sem]) (by simp [go_sem]) (by simp [Value.oneCell']) (by omega) (by simp; omega) ?_
                 intro g' c' w7 hown' hgr hloc
                 obtain ⟨s2, sf⟩ := HCELL.out w7 hgr
                 have HPU := HPUSH.out g' c' w7 hown' hgr hloc
                 clear hown' hgr hloc)
              | (refine step_call2 rfl 53 _ _ 40 3 rfl enters53 (.pointer (some ⟨rb, 0, none⟩)) (.int .i64 (d : Int)) rfl rfl HC.out HRET.out ?_
                 intro r w6 hres
                 obtain ⟨S, M, p6, sa, sn, sc, ka, km, kc, hv6, hc6, hp6, hws6, HKS6, HEND, HCELL, HPUSH⟩ := HSTEP.out r w6 hres
                 clear hres
                 subst hv6
                 obtain ⟨e0, e1, e2, ef⟩ := HKS6.out.cells))
            all_goals go_wp2_with fail
            all_goals
              go_roundg k
              case measure => omega
              case rel => exact ⟨ks ++ [(S, M)], p6, some ⟨g', 0, none⟩, c', by congr 1, by simp; omega, by rw [Nat.succ_mul] at hp'; omega, HPU.out.1, HPU.out.2.1, HPU.out.2.2.1, HPU.out.2.2.2⟩
end Go.Proofs.YtkbhljpdneibaaaDoor

