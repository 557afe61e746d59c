/- When two Rex are the same: plain trees; and what a list of pairs that are still to be looked at says of it; no Go text is walked here. -/
import Derived.Test.YtkjfhlfakoopnaaTd
namespace Go.Proofs.Ytkjfhlfakoopnaa
open Go.RowKit
set_option linter.unusedVariables false
set_option linter.unusedSimpArgs false

/-- the kid at that place -/
def Sh.kidAt (S : Sh) (i : Nat) : Sh := if h : i < S.m then S.kids ⟨i, h⟩ else S
theorem Sh.kidAt_mk (kind : Int) (n : Nat) (L H : Nat → Int) (m : Nat) (K : Nat → Sh) {i : Nat} (hi : i < m) : (Sh.mk kind n L H m K).kidAt i = K i := by
  have h : i < (Sh.mk kind n L H m K).m := hi
  rw [Sh.kidAt, dif_pos h]; rfl
theorem Sh.ind2 {motive : Sh → Prop} (h : ∀ S : Sh, (∀ i, i < S.m → motive (S.kidAt i)) → motive S) (S : Sh) : motive S := by
  induction S using Sh.ind with
  | h kind n L H m K ih => exact h _ (fun i hi => by rw [Sh.kidAt_mk kind n L H m K (show i < m from hi)]; exact ih i hi)
theorem cnt_at (S : Sh) : cnt S = S.n + S.m + sumN (fun i => cnt (S.kidAt i)) S.m := by
  obtain ⟨kind, n, L, H, m, kids⟩ := S
  simp only [cnt]
  rw [sumN_congr (g := fun i => cnt ((Sh.node kind n L H m kids).kidAt i)) (fun i hi => by rw [dif_pos hi, Sh.kidAt, dif_pos (show i < (Sh.node kind n L H m kids).m from hi)])]

/-- what is known of a Rex that lies in memory -/
theorem In.parts {B : Nat → Prop} {w : World} {S : Sh} {M : Mx} (h : In B w S M) : ∃ (a : Option Addr) (b off cap : Nat) (a' : Option Addr) (b' off' cap' : Nat),
      M.sv = .slice a S.n cap ∧ (0 < S.n → a = some ⟨b, off, none⟩ ∧ B b) ∧ Sp w b off S.n S.L S.H ∧ S.n ≤ 9223372036854775807 ∧
      M.kv = .slice a' S.m cap' ∧ (0 < S.m → a' = some ⟨b', off', none⟩ ∧ B b') ∧ S.m ≤ 9223372036854775807 ∧
      ∀ i, i < S.m → Kid w b' (off' + i * 3) (S.kidAt i) (M.kid i) ∧ In B w (S.kidAt i) (M.kid i) := by
  obtain ⟨kind, n, L, H, m, kids⟩ := S
  obtain ⟨a, b, off, cap, a', b', off', cap', e1, hn, hs, hl, e2, hm, hl', h⟩ := h
  refine ⟨a, b, off, cap, a', b', off', cap', e1, hn, hs, hl, e2, hm, hl', fun i hi => ?_⟩
  rw [Sh.kidAt, dif_pos hi]
  exact h i hi

/-- the same in all but their kids -/
def rootB (S T : Sh) : Bool := S.kind == T.kind && (eqB S.n S.L S.H T.n T.L T.H && S.m == T.m)
/-- the same in all parts -/
def sameR : Sh → Sh → Bool
  | .node kind n L H m kids, T => rootB (.node kind n L H m kids) T && (List.range m).all fun i => if hi : i < m then sameR (kids ⟨i, hi⟩) (T.kidAt i) else true
theorem sameR_iff (S T : Sh) : sameR S T = true ↔ rootB S T = true ∧ ∀ i, i < S.m → sameR (S.kidAt i) (T.kidAt i) = true := by
  obtain ⟨kind, n, L, H, m, kids⟩ := S
  simp only [sameR, Bool.and_eq_true, List.all_eq_true, List.mem_range]
  refine and_congr Iff.rfl ⟨fun h i hi => ?_, fun h i hi => ?_⟩
  · have := h i hi
    rw [dif_pos hi] at this
    rw [Sh.kidAt, dif_pos (show i < (Sh.node kind n L H m kids).m from hi)]
    exact this
  · have := h i hi
    rw [Sh.kidAt, dif_pos (show i < (Sh.node kind n L H m kids).m from hi)] at this
    rw [dif_pos hi]
    exact this
theorem eqB_iff {n m : Nat} {L H L' H' : Nat → Int} : eqB n L H m L' H' = true ↔ n = m ∧ ∀ i, i < n → L i = L' i ∧ H i = H' i := by
  simp only [eqB, Bool.and_eq_true, beq_iff_eq, List.all_eq_true, List.mem_range]
theorem rootB_iff {S T : Sh} : rootB S T = true ↔ S.kind = T.kind ∧ (S.n = T.n ∧ ∀ i, i < S.n → S.L i = T.L i ∧ S.H i = T.H i) ∧ S.m = T.m := by
  simp only [rootB, Bool.and_eq_true, beq_iff_eq, eqB_iff]
theorem rootB_trans {S T U : Sh} (h : rootB S T = true) (h' : rootB T U = true) : rootB S U = true := by
  obtain ⟨h1, ⟨h2, h3⟩, h4⟩ := rootB_iff.1 h
  obtain ⟨k1, ⟨k2, k3⟩, k4⟩ := rootB_iff.1 h'
  exact rootB_iff.2 ⟨h1.trans k1, ⟨h2.trans k2, fun i hi => ⟨(h3 i hi).1.trans (k3 i (by omega)).1, (h3 i hi).2.trans (k3 i (by omega)).2⟩⟩, h4.trans k4⟩
theorem sameR_trans (S : Sh) : ∀ T U, sameR S T = true → sameR T U = true → sameR S U = true := by
  induction S using Sh.ind2 with
  | h S ih =>
    intro T U h h'
    obtain ⟨h1, h2⟩ := (sameR_iff S T).1 h
    obtain ⟨k1, k2⟩ := (sameR_iff T U).1 h'
    have hm := (rootB_iff.1 h1).2.2
    exact (sameR_iff S U).2 ⟨rootB_trans h1 k1, fun i hi => ih i hi _ _ (h2 i hi) (k2 i (by omega))⟩
theorem sameR_cnt (S : Sh) : ∀ T, sameR S T = true → cnt S = cnt T := by
  induction S using Sh.ind2 with
  | h S ih =>
    intro T h
    obtain ⟨h1, h2⟩ := (sameR_iff S T).1 h
    obtain ⟨_, ⟨hn, _⟩, hm⟩ := rootB_iff.1 h1
    rw [cnt_at, cnt_at, hn, ← hm, sumN_congr (fun i hi => ih i hi _ (h2 i hi))]

/-- what lies at one place is one -/
theorem In.det {B B' : Nat → Prop} {w : World} (S : Sh) : ∀ (M : Mx) (T : Sh) (N : Mx), In B w S M → In B' w T N → S.kind = T.kind → M.sv = N.sv → M.kv = N.kv → sameR S T = true := by
  induction S using Sh.ind2 with
  | h S ih =>
    intro M T N h h' ek es ekv
    obtain ⟨a, b, off, cap, a', b', off', cap', e1, hn, hs, hl, e2, hm, hl', hk⟩ := h.parts
    obtain ⟨c, d, ff, cp, c', d', ff', cp', f1, gn, gs, gl, f2, gm, gl', gk⟩ := h'.parts
    rw [e1, f1] at es
    rw [e2, f2] at ekv
    simp only [Value.slice.injEq] at es ekv
    obtain ⟨ea, en, _⟩ := es
    obtain ⟨ea', em, _⟩ := ekv
    have hn1 : ∀ i, i < S.n → S.L i = T.L i ∧ S.H i = T.H i := fun i hi => by
      have x1 := (hn (by omega)).1
      have x2 := (gn (by omega)).1
      rw [ea, x2] at x1
      simp at x1
      obtain ⟨rfl, rfl⟩ := x1
      obtain ⟨p1, p2⟩ := hs i hi
      obtain ⟨q1, q2⟩ := gs i (by omega)
      rw [p1] at q1
      rw [p2] at q2
      simp at q1 q2
      exact ⟨q1, q2⟩
    refine (sameR_iff S T).2 ⟨rootB_iff.2 ⟨ek, ⟨en, hn1⟩, em⟩, fun i hi => ?_⟩
    have x1 := (hm (by omega)).1
    have x2 := (gm (by omega)).1
    rw [ea', x2] at x1
    simp at x1
    obtain ⟨rfl, rfl⟩ := x1
    obtain ⟨⟨p1, p2, p3⟩, hi1⟩ := hk i hi
    obtain ⟨⟨q1, q2, q3⟩, hi2⟩ := gk i (by omega)
    rw [p1] at q1
    rw [p2] at q2
    rw [p3] at q3
    simp at q1 q2 q3
    exact ih i hi _ _ _ hi1 hi2 q1 q2 q3

/-- two that are still to be held against each other -/
structure Pr where
  S : Sh
  M : Mx
  T : Sh
  N : Mx
/-- their kids at one place -/
def Pr.kid (p : Pr) (i : Nat) : Pr := ⟨p.S.kidAt i, p.M.kid i, p.T.kidAt i, p.N.kid i⟩
def Pr.kids (p : Pr) (k : Nat) : List Pr := (List.range k).map p.kid
theorem Pr.kids_succ (p : Pr) (k : Nat) : p.kids (k + 1) = p.kids k ++ [p.kid k] := by simp [Pr.kids, List.range_succ]
theorem Pr.kids_len (p : Pr) (k : Nat) : (p.kids k).length = k := by simp [Pr.kids]
theorem Pr.kids_mem {p q : Pr} {k : Nat} : q ∈ p.kids k ↔ ∃ i, i < k ∧ q = p.kid i := by
  simp only [Pr.kids, List.mem_map, List.mem_range]
  exact ⟨fun ⟨i, h1, h2⟩ => ⟨i, h1, h2.symm⟩, fun ⟨i, h1, h2⟩ => ⟨i, h1, h2.symm⟩⟩
def Pr.same (p : Pr) : Prop := sameR p.S p.T = true
/-- all kids are the same -/
def Pr.ks (p : Pr) : Prop := ∀ i, i < p.S.m → (p.kid i).same
def Pr.szK (p : Pr) : Nat := p.S.m + sumN (fun i => cnt (p.S.kidAt i)) p.S.m
theorem Pr.szK_le (p : Pr) : p.szK ≤ cnt p.S := by rw [cnt_at, Pr.szK]; omega
theorem Pr.kid_lt (p : Pr) {i : Nat} (hi : i < p.S.m) : cnt (p.kid i).S < p.szK := by
  have := sumN_at (f := fun i => cnt (p.S.kidAt i)) hi
  simp only [Pr.szK, Pr.kid]
  omega
theorem Pr.same_of {p : Pr} (h : rootB p.S p.T = true) (hk : p.ks) : p.same := (sameR_iff _ _).2 ⟨h, hk⟩
theorem Pr.same_ks {p : Pr} (h : p.same) : p.ks := ((sameR_iff _ _).1 h).2

/-- what the pairs in st, and those whose kids were met, say of the two -/
def Inv (A T : Sh) (st keys : List Pr) : Prop :=
  (sameR A T = true → ∀ p ∈ st, p.same) ∧ ((∀ p ∈ st, p.same) → sameR A T = true) ∧ (∀ q ∈ keys, (∀ p ∈ st, cnt p.S < q.szK → p.same) → q.ks)

theorem Inv.start (A T : Sh) (M N : Mx) : Inv A T [⟨A, M, T, N⟩] [] := by
  refine ⟨fun h p hp => ?_, fun h => h _ (List.mem_singleton.2 rfl), fun q hq => by cases hq⟩
  rw [List.mem_singleton.1 hp]; exact h
theorem Inv.done {A T : Sh} {keys : List Pr} (h : Inv A T [] keys) : sameR A T = true := h.2.1 (fun p hp => by cases hp)
theorem Inv.apart {A T : Sh} {st keys : List Pr} {p : Pr} (h : Inv A T (st ++ [p]) keys) (hr : rootB p.S p.T = false) : sameR A T = false := by
  rw [← Bool.not_eq_true]
  intro e
  have := h.1 e p (by simp)
  rw [Pr.same, sameR_iff, hr] at this
  cases this.1
theorem Inv.leaf {A T : Sh} {st keys : List Pr} {p : Pr} (h : Inv A T (st ++ [p]) keys) (hr : rootB p.S p.T = true) (hm : p.S.m = 0) : Inv A T st keys := by
  have hp : p.same := Pr.same_of hr (fun i hi => by omega)
  have all : ∀ (R : Pr → Prop), (∀ q ∈ st, R q → q.same) → ∀ q ∈ st ++ [p], R q → q.same := fun R hst q hq hR => by
    rcases List.mem_append.1 hq with hq | hq
    · exact hst q hq hR
    · rw [List.mem_singleton.1 hq]; exact hp
  refine ⟨fun e q hq => h.1 e q (by simp [hq]), fun hst => h.2.1 (fun q hq => all (fun _ => True) (fun q hq _ => hst q hq) q hq trivial), fun q hq hst => h.2.2 q hq (fun r hr' hlt => all (fun r => cnt r.S < q.szK) hst r hr' hlt)⟩
theorem Inv.new {A T : Sh} {st keys : List Pr} {p : Pr} (h : Inv A T (st ++ [p]) keys) (hr : rootB p.S p.T = true) : Inv A T (st ++ p.kids p.S.m) (p :: keys) := by
  have all : ∀ (c : Nat), (∀ q ∈ st ++ p.kids p.S.m, cnt q.S < c → q.same) → ∀ q ∈ st ++ [p], cnt q.S < c → q.same := fun c hst q hq hR => by
    rcases List.mem_append.1 hq with hq | hq
    · exact hst q (by simp [hq]) hR
    · rw [List.mem_singleton.1 hq] at hR ⊢
      refine Pr.same_of hr (fun i hi => hst _ (List.mem_append.2 (.inr (Pr.kids_mem.2 ⟨i, hi, rfl⟩))) ?_)
      have := p.kid_lt hi
      have := p.szK_le
      omega
  refine ⟨fun e q hq => ?_, fun hst => h.2.1 (fun q hq => all (cnt q.S + 1) (fun r hr' _ => hst r hr') q hq (by omega)), fun q hq hst => ?_⟩
  · rcases List.mem_append.1 hq with hq | hq
    · exact h.1 e q (by simp [hq])
    · obtain ⟨i, hi, rfl⟩ := Pr.kids_mem.1 hq
      exact Pr.same_ks (h.1 e p (by simp)) i hi
  · rcases List.mem_cons.1 hq with rfl | hq
    · exact fun i hi => hst _ (List.mem_append.2 (.inr (Pr.kids_mem.2 ⟨i, hi, rfl⟩))) (q.kid_lt hi)
    · exact h.2.2 q hq (all _ hst)
theorem Inv.met {A T : Sh} {st keys : List Pr} {p q : Pr} (h : Inv A T (st ++ [p]) keys) (hr : rootB p.S p.T = true) (hq : q ∈ keys) (hs : q.szK = p.szK) (hk : q.ks → p.ks) : Inv A T st keys := by
  have key : ∀ (c : Nat) (r : Pr), r ∈ keys → r.szK ≤ c → (∀ x ∈ st, cnt x.S < r.szK → x.same) → r.ks := by
    intro c
    induction c with
    | zero => exact fun r hr' hc hst => h.2.2 r hr' (fun x hx hlt => by omega)
    | succ c ih =>
      intro r hr' hc hst
      refine h.2.2 r hr' (fun x hx hlt => ?_)
      rcases List.mem_append.1 hx with hx | hx
      · exact hst x hx hlt
      · rw [List.mem_singleton.1 hx] at hlt ⊢
        have h1 := p.szK_le
        exact Pr.same_of hr (hk (ih q hq (by omega) (fun y hy hlt' => hst y hy (by omega))))
  refine ⟨fun e x hx => h.1 e x (by simp [hx]), fun hst => h.2.1 (fun x hx => ?_), fun r hr' hst => key _ r hr' (Nat.le_refl _) hst⟩
  rcases List.mem_append.1 hx with hx | hx
  · exact hst x hx
  · rw [List.mem_singleton.1 hx]
    exact Pr.same_of hr (hk (key _ q hq (Nat.le_refl _) (fun y hy _ => hst y hy)))

/-- how much is still to be done -/
def total : List Pr → Nat
  | [] => 0
  | p :: r => cnt p.S + 1 + total r
theorem total_append (x y : List Pr) : total (x ++ y) = total x + total y := by
  induction x with
  | nil => simp [total]
  | cons p r ih => simp only [List.cons_append, total, ih]; omega
theorem total_len (x : List Pr) : x.length ≤ total x := by
  induction x with
  | nil => simp [total]
  | cons p r ih => simp only [List.length_cons, total]; omega
theorem total_kids (p : Pr) (k : Nat) : total (p.kids k) = k + sumN (fun i => cnt (p.S.kidAt i)) k := by
  induction k with
  | zero => rfl
  | succ k ih => rw [Pr.kids_succ, total_append, ih, sumN]; simp only [total, Pr.kid]; omega
theorem total_one (p : Pr) : total [p] = cnt p.S + 1 := by simp [total]
theorem total_pop (st : List Pr) (p : Pr) : total (st ++ p.kids p.S.m) < total (st ++ [p]) := by
  have := p.szK_le
  rw [total_append, total_append, total_kids, total_one]
  simp only [Pr.szK] at this
  omega
end Go.Proofs.Ytkjfhlfakoopnaa

