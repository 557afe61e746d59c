/- What lies at one place is one; what the map of depths says; the walk of kidListOf. -/
import Derived.Test.YtiphmmgfmiiilaaDoorNi
namespace Go.Proofs.YtiphmmgfmiiilaaDoor
open Go.RowKit Go.Shelf
set_option linter.unusedVariables false
set_option linter.unusedSimpArgs false

/-- the same in all but their kids -/
def rootB (S T : Sh) : Bool := S.kind == T.kind && (eqB S.n S.L S.H T.n T.L T.H && S.m == T.m)
/-- the same in all parts -/
def sameR : Sh → Sh → Bool
  | .node kind n L H m kids, T => rootB (.node kind n L H m kids) T && (List.range m).all fun i => if hi : i < m then sameR (kids ⟨i, hi⟩) (T.kidAt i) else true
theorem sameR_iff (S T : Sh) : sameR S T = true ↔ rootB S T = true ∧ ∀ i, i < S.m → sameR (S.kidAt i) (T.kidAt i) = true := by
  obtain ⟨kind, n, L, H, m, kids⟩ := S
  simp only [sameR, Bool.and_eq_true, List.all_eq_true, List.mem_range]
  refine and_congr Iff.rfl ⟨fun h i hi => ?_, fun h i hi => ?_⟩
  · have := h i hi
    rw [dif_pos hi] at this
    rw [Sh.kidAt, dif_pos (show i < (Sh.node kind n L H m kids).m from hi)]
    exact this
  · have := h i hi
    rw [Sh.kidAt, dif_pos (show i < (Sh.node kind n L H m kids).m from hi)] at this
    rw [dif_pos hi]
    exact this
theorem eqB_iff {n m : Nat} {L H L' H' : Nat → Int} : eqB n L H m L' H' = true ↔ n = m ∧ ∀ i, i < n → L i = L' i ∧ H i = H' i := by
  simp only [eqB, Bool.and_eq_true, beq_iff_eq, List.all_eq_true, List.mem_range]
theorem rootB_iff {S T : Sh} : rootB S T = true ↔ S.kind = T.kind ∧ (S.n = T.n ∧ ∀ i, i < S.n → S.L i = T.L i ∧ S.H i = T.H i) ∧ S.m = T.m := by
  simp only [rootB, Bool.and_eq_true, beq_iff_eq, eqB_iff]
theorem Sh.ind2 {motive : Sh → Prop} (h : ∀ S : Sh, (∀ i, i < S.m → motive (S.kidAt i)) → motive S) (S : Sh) : motive S := by
  induction S using Sh.ind with
  | h kind n L H m K ih => exact h _ (fun i hi => by rw [Sh.kidAt_mk kind n L H m K (show i < m from hi)]; exact ih i hi)
theorem sameR_cnt (S : Sh) : ∀ T, sameR S T = true → cnt S = cnt T := by
  induction S using Sh.ind2 with
  | h S ih =>
    intro T h
    obtain ⟨h1, h2⟩ := (sameR_iff S T).1 h
    obtain ⟨_, ⟨hn, _⟩, hm⟩ := rootB_iff.1 h1
    rw [cnt_at, cnt_at, hn, ← hm, sumN_congr (fun i hi => ih i hi _ (h2 i hi))]
theorem sameR_hgt (S : Sh) : ∀ T, sameR S T = true → hgt S = hgt T := by
  induction S using Sh.ind2 with
  | h S ih =>
    intro T h
    obtain ⟨h1, h2⟩ := (sameR_iff S T).1 h
    obtain ⟨_, _, hm⟩ := rootB_iff.1 h1
    rw [hgt_at, hgt_at T, ← hm, maxN_congr (fun i hi => by rw [ih i hi _ (h2 i hi)])]
theorem good_same {S T : Sh} (h : rootB S T = true) (hg : goodS S = true) : goodS T = true := by
  obtain ⟨hk, ⟨hn, hs⟩, hm⟩ := rootB_iff.1 h
  obtain ⟨kind, n, L, H, m, kids⟩ := S
  obtain ⟨kind', n', L', H', m', kids'⟩ := T
  simp only at hk hn hs hm
  subst hk hn hm
  change goodB kind n L H m = true at hg
  change goodB kind n L' H' m = true
  simp only [goodB, Bool.and_eq_true] at hg ⊢
  refine ⟨hg.1, okB_true (fun k hk => ?_)⟩
  have h1 := okB_iff.1 hg.2 k hk
  unfold OkAt at h1 ⊢
  rw [← (hs k hk).1, ← (hs k hk).2]
  refine ⟨h1.1, h1.2.1, h1.2.2.1, fun h0 => ?_⟩
  rw [← (hs (k - 1) (by omega)).2]
  exact h1.2.2.2 h0
theorem sameR_all (S : Sh) : ∀ T, sameR S T = true → allB S = true → allB T = true := by
  induction S using Sh.ind2 with
  | h S ih =>
    intro T h ha
    obtain ⟨h1, h2⟩ := (sameR_iff S T).1 h
    obtain ⟨_, _, hm⟩ := rootB_iff.1 h1
    obtain ⟨g1, g2⟩ := (allB_at S).1 ha
    exact (allB_at T).2 ⟨good_same h1 g1, fun i hi => ih i (by omega) _ (h2 i (by omega)) (g2 i (by omega))⟩
/-- what lies at one place is one -/
theorem In.det {B B' : Nat → Prop} {w : World} (S : Sh) : ∀ (M : Mx) (T : Sh) (N : Mx), In B w S M → In B' w T N → S.kind = T.kind → M.sv = N.sv → M.kv = N.kv → sameR S T = true := by
  induction S using Sh.ind2 with
  | h S ih =>
    intro M T N h h' ek es ekv
    obtain ⟨a, b, off, cap, a', b', off', cap', e1, hn, hs, hl, e2, hm, hl', hk⟩ := h.parts
    obtain ⟨c, d, ff, cp, c', d', ff', cp', f1, gn, gs, gl, f2, gm, gl', gk⟩ := h'.parts
    rw [e1, f1] at es
    rw [e2, f2] at ekv
    simp only [Value.slice.injEq] at es ekv
    obtain ⟨ea, en, _⟩ := es
    obtain ⟨ea', em, _⟩ := ekv
    have hn1 : ∀ i, i < S.n → S.L i = T.L i ∧ S.H i = T.H i := fun i hi => by
      have x1 := (hn (by omega)).1
      have x2 := (gn (by omega)).1
      rw [ea, x2] at x1
      simp at x1
      obtain ⟨rfl, rfl⟩ := x1
      obtain ⟨p1, p2⟩ := hs i hi
      obtain ⟨q1, q2⟩ := gs i (by omega)
      rw [p1] at q1
      rw [p2] at q2
      simp at q1 q2
      exact ⟨q1, q2⟩
    refine (sameR_iff S T).2 ⟨rootB_iff.2 ⟨ek, ⟨en, hn1⟩, em⟩, fun i hi => ?_⟩
    have x1 := (hm (by omega)).1
    have x2 := (gm (by omega)).1
    rw [ea', x2] at x1
    simp at x1
    obtain ⟨rfl, rfl⟩ := x1
    obtain ⟨⟨p1, p2, p3⟩, hi1⟩ := hk i hi
    obtain ⟨⟨q1, q2, q3⟩, hi2⟩ := gk i (by omega)
    rw [p1] at q1
    rw [p2] at q2
    rw [p3] at q3
    simp at q1 q2 q3
    exact ih i hi _ _ _ hi1 hi2 q1 q2 q3

/-- where a slice begins -/
def addrOf : Value → Addr
  | .slice (some a) _ _ => a
  | _ => ⟨0, 0, none⟩
def szK (S : Sh) : Nat := S.m + sumN (fun i => cnt (S.kidAt i)) S.m
theorem szK_le (S : Sh) : szK S ≤ cnt S := by rw [cnt_at, szK]; omega
theorem kid_szK (S : Sh) {i : Nat} (hi : i < S.m) : cnt (S.kidAt i) < szK S := by
  have := sumN_at (f := fun i => cnt (S.kidAt i)) hi
  simp only [szK]
  omega
/-- where the kids lie, and how many there are -/
def keyS (S : Sh) (M : Mx) : Addr × Nat := (addrOf M.kv, S.m)
/-- a list of kids that was gone through -/
structure Wit (w0 : World) (q : (Addr × Nat) × Nat) (D : Sh) (N : Mx) : Prop where
  lies : In (Soft w0) w0 D N
  pos : 0 < D.m
  key : q.1 = keyS D N
  good : ∀ i, i < D.m → allB (D.kidAt i) = true
  deep : hgt D = q.2
theorem key_soft {w0 : World} {D : Sh} {N : Mx} (h : In (Soft w0) w0 D N) (hp : 0 < D.m) : Soft w0 (keyS D N).1.block := by
  obtain ⟨_, _, _, _, a', b', off', cap', _, _, _, _, e2, hm, _, _⟩ := h.parts
  rw [keyS, e2, (hm hp).1]
  exact (hm hp).2
theorem Wit.same {w0 : World} {q : (Addr × Nat) × Nat} {D S : Sh} {N M : Mx} (h : Wit w0 q D N) (hS : In (Soft w0) w0 S M) (hp : 0 < S.m) (hk : q.1 = keyS S M) : szK D = szK S ∧ hgt S = q.2 ∧ ∀ i, i < S.m → allB (S.kidAt i) = true := by
  obtain ⟨_, _, _, _, a, b, off, cap, _, _, _, _, e, k, _, hkk⟩ := h.lies.parts
  obtain ⟨_, _, _, _, a2, b2, off2, cap2, _, _, _, _, e2, k2, _, hkk2⟩ := hS.parts
  have r1 := (k h.pos).1
  have r2 := (k2 hp).1
  subst r1 r2
  have he := h.key.symm.trans hk
  simp only [keyS, e, e2, addrOf, Prod.mk.injEq, Addr.mk.injEq] at he
  obtain ⟨⟨rfl, rfl, _⟩, hm⟩ := he
  have s1 : ∀ i, i < S.m → sameR (D.kidAt i) (S.kidAt i) = true := fun i hi => by
    obtain ⟨⟨x0, x1, x2⟩, hi1⟩ := hkk i (by omega)
    obtain ⟨⟨y0, y1, y2⟩, hi2⟩ := hkk2 i hi
    rw [x0] at y0
    rw [x1] at y1
    rw [x2] at y2
    simp at y0 y1 y2
    exact In.det _ _ _ _ hi1 hi2 y0 y1 y2
  refine ⟨?_, ?_, fun i hi => sameR_all _ _ (s1 i hi) (h.good i (by omega))⟩
  · rw [szK, szK, hm, sumN_congr (fun i hi => sameR_cnt _ _ (s1 i hi))]
  · rw [← h.deep, hgt_at, hgt_at D, hm]
    exact (maxN_congr (fun i hi => by rw [sameR_hgt _ _ (s1 i hi)])).symm
/-- all that the map holds was gone through -/
def KsW (w0 : World) (ks : List ((Addr × Nat) × Nat)) : Prop := ∀ q ∈ ks, ∃ D N, Wit w0 q D N
theorem KsW.ok {w0 w : World} {ks : List ((Addr × Nat) × Nat)} (h : KsW w0 ks) (hb : Below w0.heap.size w0 w) : ∀ q ∈ ks, KOk w q.1 := fun q hq => by
  obtain ⟨D, N, hW⟩ := h q hq
  rw [hW.key]
  exact (key_soft hW.lies hW.pos).below hb

set_option maxHeartbeats 2000000 in
theorem kidListOf_any {B : Nat → Prop} (S : Sh) (M : Mx) (w : World) (h : In B w S M) (hp : 0 < S.m) : Calls Tryd.prog 45 #[vx S M] w fun e w' => e = .returned (.agg #[.pointer (some (keyS S M).1), .int .i64 (S.m : Int)]) ∧ Below w.heap.size w w' := by
  obtain ⟨a, b, off, c, a', b', off', c', e1, _, _, _, e2, hma, hml, hkk⟩ := h.parts
  have hv : vx S M = .agg #[.int .i64 S.kind, .slice a S.n c, .slice a' S.m c'] := by rw [vx, e1, e2]
  have hkey : (keyS S M).1 = ⟨b', off', none⟩ := by rw [keyS, e2, (hma hp).1]; rfl
  rw [hv, hkey]
  obtain ⟨rfl, _⟩ := hma hp
  obtain ⟨kd, hkd⟩ : ∃ kd, S.kind = kd := ⟨_, rfl⟩
  obtain ⟨n, hn⟩ : ∃ n, S.n = n := ⟨_, rfl⟩
  obtain ⟨m, hm⟩ : ∃ m, S.m = m := ⟨_, rfl⟩
  rw [hm] at hp hml
  rw [hkd, hn, hm]
  have hpz : (0 : Int) < (m : Int) := by omega
  clear hv hkd hn hm h e1 e2 hma hkk hkey
  go_enter Tryd.func45, Tryd.ntmps45
  go_wp2_with fail
  go_region
  all_goals go_wp2_with fail
  all_goals
    refine bodyPost_ret (v := .agg #[.pointer (some ⟨b', off', none⟩), .int .i64 (m : Int)]) (by simp [results, Tryd.results45, go_sem]) rfl ⟨rfl, ?_⟩
    repeat (first | exact Below.refl _ _ | refine Below.alloc ?_ (by simp <;> omega) _ | refine Below.setCell ?_ (by simp <;> omega) _ | refine Below.drew ?_)
end Go.Proofs.YtiphmmgfmiiilaaDoor

