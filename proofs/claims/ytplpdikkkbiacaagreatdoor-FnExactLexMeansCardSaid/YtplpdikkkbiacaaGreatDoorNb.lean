/- What marking makes of a Rex whose lists are all apart: the walks of markSpanS, markRexS, markRex, heldSpanS, heldRexS, heldRex. -/
import Derived.Test.YtplpdikkkbiacaaGreatDoorNi
import Derived.Test.YtplpdikkkbiacaaGreatDoorTm
namespace Go.Proofs.YtplpdikkkbiacaaGreatDoor
open Go.RowKit Go.Shelf
set_option linter.unusedVariables false
set_option linter.unusedSimpArgs false

/-- the same in all but their kids -/
def rootB (S T : Sh) : Bool := S.kind == T.kind && (eqB S.n S.L S.H T.n T.L T.H && S.m == T.m)
/-- the same in all parts -/
def sameR : Sh → Sh → Bool
  | .node kind n L H m kids, T => rootB (.node kind n L H m kids) T && (List.range m).all fun i => if hi : i < m then sameR (kids ⟨i, hi⟩) (T.kidAt i) else true
theorem sameR_iff (S T : Sh) : sameR S T = true ↔ rootB S T = true ∧ ∀ i, i < S.m → sameR (S.kidAt i) (T.kidAt i) = true := by
  obtain ⟨kind, n, L, H, m, kids⟩ := S
  simp only [sameR, Bool.and_eq_true, List.all_eq_true, List.mem_range]
  refine and_congr Iff.rfl ⟨fun h i hi => ?_, fun h i hi => ?_⟩
  · have := h i hi
    rw [dif_pos hi] at this
    rw [Sh.kidAt, dif_pos (show i < (Sh.node kind n L H m kids).m from hi)]
    exact this
  · have := h i hi
    rw [Sh.kidAt, dif_pos (show i < (Sh.node kind n L H m kids).m from hi)] at this
    rw [dif_pos hi]
    exact this
theorem eqB_iff {n m : Nat} {L H L' H' : Nat → Int} : eqB n L H m L' H' = true ↔ n = m ∧ ∀ i, i < n → L i = L' i ∧ H i = H' i := by
  simp only [eqB, Bool.and_eq_true, beq_iff_eq, List.all_eq_true, List.mem_range]
theorem rootB_iff {S T : Sh} : rootB S T = true ↔ S.kind = T.kind ∧ (S.n = T.n ∧ ∀ i, i < S.n → S.L i = T.L i ∧ S.H i = T.H i) ∧ S.m = T.m := by
  simp only [rootB, Bool.and_eq_true, beq_iff_eq, eqB_iff]
theorem Sh.ind2 {motive : Sh → Prop} (h : ∀ S : Sh, (∀ i, i < S.m → motive (S.kidAt i)) → motive S) (S : Sh) : motive S := by
  induction S using Sh.ind with
  | h kind n L H m K ih => exact h _ (fun i hi => by rw [Sh.kidAt_mk kind n L H m K (show i < m from hi)]; exact ih i hi)
theorem sameR_cnt (S : Sh) : ∀ T, sameR S T = true → cnt S = cnt T := by
  induction S using Sh.ind2 with
  | h S ih =>
    intro T h
    obtain ⟨h1, h2⟩ := (sameR_iff S T).1 h
    obtain ⟨_, ⟨hn, _⟩, hm⟩ := rootB_iff.1 h1
    rw [cnt_at, cnt_at, hn, ← hm, sumN_congr (fun i hi => ih i hi _ (h2 i hi))]
theorem sameR_hgt (S : Sh) : ∀ T, sameR S T = true → hgt S = hgt T := by
  induction S using Sh.ind2 with
  | h S ih =>
    intro T h
    obtain ⟨h1, h2⟩ := (sameR_iff S T).1 h
    obtain ⟨_, _, hm⟩ := rootB_iff.1 h1
    rw [hgt_at, hgt_at T, ← hm, maxN_congr (fun i hi => by rw [ih i hi _ (h2 i hi)])]
theorem good_same {S T : Sh} (h : rootB S T = true) (hg : goodS S = true) : goodS T = true := by
  obtain ⟨hk, ⟨hn, hs⟩, hm⟩ := rootB_iff.1 h
  obtain ⟨kind, n, L, H, m, kids⟩ := S
  obtain ⟨kind', n', L', H', m', kids'⟩ := T
  simp only at hk hn hs hm
  subst hk hn hm
  change goodB kind n L H m = true at hg
  change goodB kind n L' H' m = true
  simp only [goodB, Bool.and_eq_true] at hg ⊢
  refine ⟨hg.1, okB_true (fun k hk => ?_)⟩
  have h1 := okB_iff.1 hg.2 k hk
  unfold OkAt at h1 ⊢
  rw [← (hs k hk).1, ← (hs k hk).2]
  refine ⟨h1.1, h1.2.1, h1.2.2.1, fun h0 => ?_⟩
  rw [← (hs (k - 1) (by omega)).2]
  exact h1.2.2.2 h0
theorem sameR_all (S : Sh) : ∀ T, sameR S T = true → allB S = true → allB T = true := by
  induction S using Sh.ind2 with
  | h S ih =>
    intro T h ha
    obtain ⟨h1, h2⟩ := (sameR_iff S T).1 h
    obtain ⟨_, _, hm⟩ := rootB_iff.1 h1
    obtain ⟨g1, g2⟩ := (allB_at S).1 ha
    exact (allB_at T).2 ⟨good_same h1 g1, fun i hi => ih i (by omega) _ (h2 i (by omega)) (g2 i (by omega))⟩
/-- what lies at one place is one -/
theorem In.det {B B' : Nat → Prop} {w : World} (S : Sh) : ∀ (M : Mx) (T : Sh) (N : Mx), In B w S M → In B' w T N → S.kind = T.kind → M.sv = N.sv → M.kv = N.kv → sameR S T = true := by
  induction S using Sh.ind2 with
  | h S ih =>
    intro M T N h h' ek es ekv
    obtain ⟨a, b, off, cap, a', b', off', cap', e1, hn, hs, hl, e2, hm, hl', hk⟩ := h.parts
    obtain ⟨c, d, ff, cp, c', d', ff', cp', f1, gn, gs, gl, f2, gm, gl', gk⟩ := h'.parts
    rw [e1, f1] at es
    rw [e2, f2] at ekv
    simp only [Value.slice.injEq] at es ekv
    obtain ⟨ea, en, _⟩ := es
    obtain ⟨ea', em, _⟩ := ekv
    have hn1 : ∀ i, i < S.n → S.L i = T.L i ∧ S.H i = T.H i := fun i hi => by
      have x1 := (hn (by omega)).1
      have x2 := (gn (by omega)).1
      rw [ea, x2] at x1
      simp at x1
      obtain ⟨rfl, rfl⟩ := x1
      obtain ⟨p1, p2⟩ := hs i hi
      obtain ⟨q1, q2⟩ := gs i (by omega)
      rw [p1] at q1
      rw [p2] at q2
      simp at q1 q2
      exact ⟨q1, q2⟩
    refine (sameR_iff S T).2 ⟨rootB_iff.2 ⟨ek, ⟨en, hn1⟩, em⟩, fun i hi => ?_⟩
    have x1 := (hm (by omega)).1
    have x2 := (gm (by omega)).1
    rw [ea', x2] at x1
    simp at x1
    obtain ⟨rfl, rfl⟩ := x1
    obtain ⟨⟨p1, p2, p3⟩, hi1⟩ := hk i hi
    obtain ⟨⟨q1, q2, q3⟩, hi2⟩ := gk i (by omega)
    rw [p1] at q1
    rw [p2] at q2
    rw [p3] at q3
    simp at q1 q2 q3
    exact ih i hi _ _ _ hi1 hi2 q1 q2 q3

/-- where a slice begins -/
def addrOf : Value → Addr
  | .slice (some a) _ _ => a
  | _ => ⟨0, 0, none⟩
def szK (S : Sh) : Nat := S.m + sumN (fun i => cnt (S.kidAt i)) S.m
/-- where the kids lie, and how many there are -/
def keyS (S : Sh) (M : Mx) : Addr × Nat := (addrOf M.kv, S.m)
/-- a list of kids that was gone through -/
structure Wit (w0 : World) (q : (Addr × Nat) × Nat) (D : Sh) (N : Mx) : Prop where
  lies : In (Soft w0) w0 D N
  pos : 0 < D.m
  key : q.1 = keyS D N
  good : ∀ i, i < D.m → allB (D.kidAt i) = true
  deep : hgt D = q.2
theorem key_soft {w0 : World} {D : Sh} {N : Mx} (h : In (Soft w0) w0 D N) (hp : 0 < D.m) : Soft w0 (keyS D N).1.block := by
  obtain ⟨_, _, _, _, a', b', off', cap', _, _, _, _, e2, hm, _, _⟩ := h.parts
  rw [keyS, e2, (hm hp).1]
  exact (hm hp).2
theorem Wit.same {w0 : World} {q : (Addr × Nat) × Nat} {D S : Sh} {N M : Mx} (h : Wit w0 q D N) (hS : In (Soft w0) w0 S M) (hp : 0 < S.m) (hk : q.1 = keyS S M) : szK D = szK S ∧ hgt S = q.2 ∧ ∀ i, i < S.m → allB (S.kidAt i) = true := by
  obtain ⟨_, _, _, _, a, b, off, cap, _, _, _, _, e, k, _, hkk⟩ := h.lies.parts
  obtain ⟨_, _, _, _, a2, b2, off2, cap2, _, _, _, _, e2, k2, _, hkk2⟩ := hS.parts
  have r1 := (k h.pos).1
  have r2 := (k2 hp).1
  subst r1 r2
  have he := h.key.symm.trans hk
  simp only [keyS, e, e2, addrOf, Prod.mk.injEq, Addr.mk.injEq] at he
  obtain ⟨⟨rfl, rfl, _⟩, hm⟩ := he
  have s1 : ∀ i, i < S.m → sameR (D.kidAt i) (S.kidAt i) = true := fun i hi => by
    obtain ⟨⟨x0, x1, x2⟩, hi1⟩ := hkk i (by omega)
    obtain ⟨⟨y0, y1, y2⟩, hi2⟩ := hkk2 i hi
    rw [x0] at y0
    rw [x1] at y1
    rw [x2] at y2
    simp at y0 y1 y2
    exact In.det _ _ _ _ hi1 hi2 y0 y1 y2
  refine ⟨?_, ?_, fun i hi => sameR_all _ _ (s1 i hi) (h.good i (by omega))⟩
  · rw [szK, szK, hm, sumN_congr (fun i hi => sameR_cnt _ _ (s1 i hi))]
  · rw [← h.deep, hgt_at, hgt_at D, hm]
    exact (maxN_congr (fun i hi => by rw [sameR_hgt _ _ (s1 i hi)])).symm
/-- all that the map holds was gone through -/
def KsW (w0 : World) (ks : List ((Addr × Nat) × Nat)) : Prop := ∀ q ∈ ks, ∃ D N, Wit w0 q D N
theorem KsW.ok {w0 w : World} {ks : List ((Addr × Nat) × Nat)} (h : KsW w0 ks) (hb : Below w0.heap.size w0 w) : ∀ q ∈ ks, KOk w q.1 := fun q hq => by
  obtain ⟨D, N, hW⟩ := h q hq
  rw [hW.key]
  exact (key_soft hW.lies hW.pos).below hb

end Go.Proofs.YtplpdikkkbiacaaGreatDoor
namespace Go.Proofs.YtplpdikkkbiacaaGreatDoor
open Go.RowKit Go.Shelf
set_option linter.unusedVariables false
set_option linter.unusedSimpArgs false

/-- the Rex that are given: a row of them in memory -/
structure Giv (w : World) (gb : Nat) (g : List (Sh × Mx)) : Prop where
  at_ : ∀ i p, g[i]? = some p → Kid w gb (i * 3) p.1 p.2 ∧ In (Soft w) w p.1 p.2 ∧ cnt p.1 ≤ 1048576
theorem Giv.below {w w' : World} {gb : Nat} {g : List (Sh × Mx)} (h : Giv w gb g) (hb : Below w.heap.size w w') : Giv w' gb g :=
  ⟨fun i p hp => ⟨(h.at_ i p hp).1.keep (fun hlt => hb.block _ hlt), ((h.at_ i p hp).2.1.below hb).mono (fun k hk => hk.below hb), (h.at_ i p hp).2.2⟩⟩
end Go.Proofs.YtplpdikkkbiacaaGreatDoor
namespace Go.Proofs.YtplpdikkkbiacaaGreatDoor
open Go.RowKit
set_option linter.unusedVariables false
set_option linter.unusedSimpArgs false

theorem Soft.frozen {w : World} {k : Nat} (h : Soft w k) (o : Nat) : w.frozen? ⟨k, o, none⟩ = false := by
  obtain ⟨cs, t, h⟩ := h
  simp [World.frozen?, h]

/-- nothing turns but in the blocks of T; plain blocks stay plain -/
structure Turn (T : Nat → Prop) (w w' : World) : Prop where
  os : w'.os = w.os
  tape : w'.tape = w.tape
  output : w'.output = w.output
  size : w.heap.size ≤ w'.heap.size
  far : ∀ k, k < w.heap.size → ¬ T k → w'.heap[k]? = w.heap[k]?
  soft : ∀ k, Soft w k → Soft w' k
theorem Turn.refl (T : Nat → Prop) (w : World) : Turn T w w := ⟨rfl, rfl, rfl, Nat.le_refl _, fun _ _ _ => rfl, fun _ h => h⟩
theorem Turn.trans {T : Nat → Prop} {a b c : World} (h : Turn T a b) (k : Turn T b c) : Turn T a c :=
  ⟨k.os.trans h.os, k.tape.trans h.tape, k.output.trans h.output, Nat.le_trans h.size k.size, fun j hj hf => (k.far j (Nat.lt_of_lt_of_le hj h.size) hf).trans (h.far j hj hf), fun j hj => k.soft j (h.soft j hj)⟩
theorem Turn.mono {T T' : Nat → Prop} {a b : World} (h : Turn T a b) (hT : ∀ k, T k → T' k) : Turn T' a b := ⟨h.os, h.tape, h.output, h.size, fun j hj hf => h.far j hj (fun e => hf (hT j e)), h.soft⟩
theorem Turn.below {T : Nat → Prop} {w w' : World} (hb : Below w.heap.size w w') : Turn T w w' := ⟨hb.os, hb.tape, hb.output, hb.size, fun k hk _ => hb.block k hk, fun k h => h.below hb⟩
theorem Turn.toBelow {T : Nat → Prop} {w w' : World} {n : Nat} (h : Turn T w w') (hT : ∀ k, T k → n ≤ k) (hn : n ≤ w.heap.size) : Below n w w' := ⟨h.os, h.tape, h.output, h.size, fun k hk => h.far k (by omega) (fun e => by have := hT k e; omega)⟩
theorem Turn.set {T : Nat → Prop} {w w' : World} (h : Turn T w w') {p : Addr} (hp : T p.block) (v : Value) : Turn T w (w'.setCell p v) :=
  ⟨h.os, h.tape, h.output, by simp [World.setCell]; exact h.size, fun k hk hf => (Below.heap_setCell _ _ _ _ (fun e => hf (by rw [e]; exact hp))).trans (h.far k hk hf), fun k hk => (h.soft k hk).set p v⟩

/-- how many numbers are marked -/
def mk : Sh → Nat
  | .node _ n _ _ m kids => 2 * n + sumN (fun i => if hi : i < m then 1 + mk (kids ⟨i, hi⟩) else 0) m
theorem mk_mk (kind : Int) (n : Nat) (L H : Nat → Int) (m : Nat) (K : Nat → Sh) : mk (.mk kind n L H m K) = 2 * n + sumN (fun i => 1 + mk (K i)) m := by
  simp only [Sh.mk, mk]
  rw [sumN_congr (g := fun i => 1 + mk (K i)) (fun i hi => by rw [dif_pos hi])]
theorem sumN_two (f g : Nat → Nat) : ∀ m, (∀ i, i < m → f i ≤ 2 * g i) → sumN (fun i => 1 + f i) m ≤ m + 2 * sumN g m
  | 0, _ => by simp [sumN]
  | m + 1, h => by
    have h1 := sumN_two f g m (fun i hi => h i (by omega))
    have h2 := h m (by omega)
    simp only [sumN]; omega
theorem mk_le (S : Sh) : mk S ≤ 2 * cnt S := by
  induction S using Sh.ind with
  | h kind n L H m K ih =>
    rw [mk_mk, cnt_mk]
    have := sumN_two (fun i => mk (K i)) (fun i => cnt (K i)) m ih
    omega
/-- the same, of another kind -/
def Sh.setKind (S : Sh) (k : Int) : Sh := .node k S.n S.L S.H S.m S.kids
theorem In.kind {B : Nat → Prop} {w : World} {S : Sh} {M : Mx} (k : Int) (h : In B w S M) : In B w (S.setKind k) M := by
  obtain ⟨kind, n, L, H, m, kids⟩ := S
  exact h

/-- the kids of a Rex lie there -/
def Ksin (w : World) (S : Sh) (M : Mx) : Prop := ∃ (a' : Option Addr) (b' off' cap' : Nat), M.kv = .slice a' S.m cap' ∧ (0 < S.m → a' = some ⟨b', off', none⟩ ∧ Soft w b') ∧
  ∀ i, i < S.m → Kid w b' (off' + i * 3) (S.kidAt i) (M.kid i) ∧ In (Soft w) w (S.kidAt i) (M.kid i)
theorem Ksin.keep {w w' : World} {S : Sh} {M : Mx} (h : Ksin w S M) (hk : ∀ x ∈ blK S M, x < w.heap.size → w'.heap[x]? = w.heap[x]?) (hs : ∀ k, Soft w k → Soft w' k) : Ksin w' S M := by
  obtain ⟨a', b', off', cap', e, hm, hh⟩ := h
  refine ⟨a', b', off', cap', e, fun h => ⟨(hm h).1, hs _ (hm h).2⟩, fun i hi => ⟨(hh i hi).1.keep (fun hlt => hk b' ?_ hlt), (((hh i hi).2.keepBl (fun x hx hlt => hk x ?_ hlt))).mono hs⟩⟩
  · rw [blK, if_pos (show 0 < S.m by omega), e, (hm (by omega)).1]; simp [blk]
  · exact List.mem_append.2 (.inr (List.mem_flatMap.2 ⟨i, List.mem_range.2 hi, hx⟩))
end Go.Proofs.YtplpdikkkbiacaaGreatDoor

