/- The list of what is still to be done, and what was met, as they lie in memory. -/
import Derived.Test.YtkjfhlfakoopnaaRd
import Derived.Maps.AppendAt
import Derived.Deep.RegionLaw
import Derived.Laws.OwnMore
import Derived.OwnWalk
namespace Go.Proofs.Ytkjfhlfakoopnaa
open Go.RowKit
set_option linter.unusedVariables false
set_option linter.unusedSimpArgs false

/-- a pair's six cells -/
def Pr.enc (p : Pr) : List Value := [.int .i64 p.S.kind, p.M.sv, p.M.kv, .int .i64 p.T.kind, p.N.sv, p.N.kv]
def encs (st : List Pr) : List Value := st.flatMap Pr.enc
theorem encs_append (x y : List Pr) : encs (x ++ y) = encs x ++ encs y := by simp [encs]
theorem encs_one (p : Pr) : encs [p] = p.enc := by simp [encs]
theorem encs_len (x : List Pr) : (encs x).length = x.length * 6 := by
  induction x with
  | nil => rfl
  | cons p r ih =>
    have : encs (p :: r) = p.enc ++ encs r := rfl
    rw [this, List.length_append, ih, show p.enc.length = 6 from rfl, List.length_cons]
    omega

/-- the list of pairs lies in block g -/
def Stk (w : World) (base g c : Nat) (st : List Pr) : Prop := w.ownsRow base 49 6 (.slice (some ⟨g, 0, none⟩) st.length c) st.length (encs st)
theorem Stk.block {w : World} {base g c : Nat} {st : List Pr} (h : Stk w base g c st) : base ≤ g ∧ st.length ≤ c ∧ c ≤ maxLen ∧ ∃ cur, w.heap[g]? = some (.cells cur 49 (0, 0)) := by
  rcases h.2 with ⟨h, _⟩ | ⟨g', cap, cur, e, h1, h2, h3, h4, h5⟩
  · cases h
  · simp only [Value.slice.injEq, Option.some.injEq, Addr.mk.injEq] at e
    obtain ⟨⟨rfl, _⟩, _, rfl⟩ := e
    exact ⟨h1, h3, h4, cur, h2⟩
theorem Stk.pop {w : World} {base g c : Nat} {st : List Pr} {p : Pr} (h : Stk w base g c (st ++ [p])) : Stk w base g c st := by
  rcases h.2 with ⟨h, _⟩ | ⟨g', cap, cur, e, h1, h2, h3, h4, h5, h6⟩
  · cases h
  · simp only [Value.slice.injEq, Option.some.injEq, Addr.mk.injEq] at e
    obtain ⟨⟨rfl, _⟩, _, rfl⟩ := e
    simp only [List.length_append, List.length_singleton] at h3 h6
    refine ⟨encs_len st, .inr ⟨g, c, cur, rfl, h1, h2, by omega, h4, h5, ?_⟩⟩
    have h7 := congrArg (List.take (st.length * 6)) h6
    rw [List.take_take, Nat.min_eq_left (by omega), encs_append, List.take_left' (encs_len st)] at h7
    exact h7
theorem Stk.top {w : World} {base g c : Nat} {st : List Pr} {p : Pr} (h : Stk w base g c (st ++ [p])) (j : Nat) (hj : j < 6) : w.cell? ⟨g, st.length * 6 + j, none⟩ = p.enc[j]? := by
  have := World.ownsRow.cellAt h (st.length * 6 + j) (by simp; omega)
  rw [this, encs_append, encs_one, List.getElem?_append_right (by rw [encs_len]; omega), encs_len]
  congr 1
  omega
theorem Stk.of_block {w w' : World} {base g c : Nat} {st : List Pr} (h : Stk w base g c st) (e : w'.heap[g]? = w.heap[g]?) : Stk w' base g c st := by
  rcases h.2 with ⟨h, _⟩ | ⟨g', cap, cur, e', h1, h2, h3, h4, h5, h6⟩
  · cases h
  · simp only [Value.slice.injEq, Option.some.injEq, Addr.mk.injEq] at e'
    obtain ⟨⟨rfl, _⟩, _, rfl⟩ := e'
    exact ⟨h.1, .inr ⟨g, c, cur, rfl, h1, e.trans h2, h3, h4, h5, h6⟩⟩
theorem Stk.lt {w : World} {base g c : Nat} {st : List Pr} (h : Stk w base g c st) : g < w.heap.size := by
  obtain ⟨_, _, _, cur, h⟩ := h.block
  rcases Nat.lt_or_ge g w.heap.size with h' | h'
  · exact h'
  · simp [Array.getElem?_eq_none h'] at h
theorem Stk.below {w w' : World} {base g c : Nat} {st : List Pr} (h : Stk w base g c st) (hb : Below w.heap.size w w') : Stk w' base g c st := h.of_block (hb.block g h.lt)

/-- both lie in memory that was there ahead, in plain blocks -/
def PrOk (w : World) (p : Pr) : Prop := In (Soft w) w p.S p.M ∧ In (Soft w) w p.T p.N ∧ cnt p.S ≤ 1048576 ∧ cnt p.T ≤ 1048576
theorem PrOk.kid {w : World} {p : Pr} (h : PrOk w p) {i : Nat} (hi : i < p.S.m) (hj : i < p.T.m) : PrOk w (p.kid i) := by
  obtain ⟨h1, h2, h3, h4⟩ := h
  obtain ⟨_, _, _, _, _, _, _, _, _, _, _, _, _, _, _, hk⟩ := h1.parts
  obtain ⟨_, _, _, _, _, _, _, _, _, _, _, _, _, _, _, gk⟩ := h2.parts
  rw [cnt_at] at h3 h4
  have x := sumN_at (f := fun i => cnt (p.S.kidAt i)) hi
  have y := sumN_at (f := fun i => cnt (p.T.kidAt i)) hj
  exact ⟨(hk i hi).2, (gk i hj).2, by simp only [Pr.kid]; omega, by simp only [Pr.kid]; omega⟩

/-- where a slice begins -/
def addrOf : Value → Addr
  | .slice (some a) _ _ => a
  | _ => ⟨0, 0, none⟩
/-- the key of a pair: where its kids lie, and how many there are -/
def Pr.key (p : Pr) : Addr × Addr × Nat := (addrOf p.M.kv, addrOf p.N.kv, p.S.m)
/-- a pair whose kids were met -/
def WasMet (w : World) (p : Pr) : Prop := PrOk w p ∧ 0 < p.S.m ∧ p.S.m = p.T.m
theorem WasMet.key {w w' : World} {p : Pr} (h : WasMet w p) (hb : Below w.heap.size w w') : KOk w' p.key := by
  obtain ⟨⟨h1, h2, _⟩, h0, hm⟩ := h
  obtain ⟨_, _, _, _, _, _, _, _, _, _, _, _, e, k, _, _⟩ := h1.parts
  obtain ⟨_, _, _, _, _, _, _, _, _, _, _, _, e', k', _, _⟩ := h2.parts
  obtain ⟨k1, k2⟩ := k (by omega)
  obtain ⟨k1', k2'⟩ := k' (by omega)
  subst k1 k1'
  simp only [Pr.key, e, e', addrOf]
  exact ⟨k2.below hb, k2'.below hb⟩
theorem WasMet.kids {w : World} {p q : Pr} (hp : WasMet w p) (hq : WasMet w q) (he : q.key = p.key) : q.szK = p.szK ∧ (q.ks → p.ks) := by
  obtain ⟨⟨h1, h2, _⟩, h0, hm⟩ := hp
  obtain ⟨⟨g1, g2, _⟩, g0, gm⟩ := hq
  obtain ⟨_, _, _, _, a, b, off, cap, _, _, _, _, e, k, _, hk⟩ := h1.parts
  obtain ⟨_, _, _, _, a2, b2, off2, cap2, _, _, _, _, e2, k2, _, hk2⟩ := h2.parts
  obtain ⟨_, _, _, _, a3, b3, off3, cap3, _, _, _, _, e3, k3, _, hk3⟩ := g1.parts
  obtain ⟨_, _, _, _, a4, b4, off4, cap4, _, _, _, _, e4, k4, _, hk4⟩ := g2.parts
  have r1 := (k (by omega)).1
  have r2 := (k2 (by omega)).1
  have r3 := (k3 (by omega)).1
  have r4 := (k4 (by omega)).1
  subst r1 r2 r3 r4
  simp only [Pr.key, e, e2, e3, e4, addrOf, Prod.mk.injEq, Addr.mk.injEq] at he
  obtain ⟨⟨rfl, rfl, _⟩, ⟨rfl, rfl, _⟩, hmm⟩ := he
  have s1 : ∀ i, i < p.S.m → sameR (p.S.kidAt i) (q.S.kidAt i) = true := fun i hi => by
    obtain ⟨⟨x0, x1, x2⟩, hi1⟩ := hk i hi
    obtain ⟨⟨y0, y1, y2⟩, hi2⟩ := hk3 i (by omega)
    rw [x0] at y0
    rw [x1] at y1
    rw [x2] at y2
    simp at y0 y1 y2
    exact In.det _ _ _ _ hi1 hi2 y0 y1 y2
  have s2 : ∀ i, i < p.S.m → sameR (q.T.kidAt i) (p.T.kidAt i) = true := fun i hi => by
    obtain ⟨⟨x0, x1, x2⟩, hi1⟩ := hk4 i (by omega)
    obtain ⟨⟨y0, y1, y2⟩, hi2⟩ := hk2 i (by omega)
    rw [x0] at y0
    rw [x1] at y1
    rw [x2] at y2
    simp at y0 y1 y2
    exact In.det _ _ _ _ hi1 hi2 y0 y1 y2
  refine ⟨?_, fun hks i hi => ?_⟩
  · rw [Pr.szK, Pr.szK, hmm]
    rw [sumN_congr (fun i hi => (sameR_cnt _ _ (s1 i hi)).symm)]
  · exact sameR_trans _ _ _ (s1 i hi) (sameR_trans _ _ _ (hks i (by omega)) (s2 i hi))

theorem Try.info49 : (Try.prog.info? 49).map (fun i => (i.zero, i.size, i.bytes)) = some (some (.agg #[.int .i64 0, .slice none 0 0, .slice none 0 0, .int .i64 0, .slice none 0 0, .slice none 0 0]), 6, 112) := by kernel_rfl

/-- a pair put behind the others, as one step of a region that draws -/
theorem step_pair {ops : Array Oper} {o : Oper} {a : Act} {w : World} {K : Act → World → Prop} {Q : Exit → Act → World → Prop} {E : Prop}
    (hg : o.guard = none) (s x : Operand) (hop : o.op = Op.call { callee := Callee.builtin Builtin.append, args := #[s, x], argTypes := #[50, 50] })
    (base g q c : Nat) (xs : List Value) (hs : a.eval s = .slice (some ⟨g, 0, none⟩) q c) (hown : w.ownsRow base 49 6 (.slice (some ⟨g, 0, none⟩) q c) q xs)
    (b : Nat) (hx : a.eval x = .slice (some ⟨b, 0, none⟩) 1 1) (v0 v1 v2 v3 v4 v5 : Value) (c0 : w.cell? ⟨b, 0, none⟩ = some v0) (c1 : w.cell? ⟨b, 1, none⟩ = some v1) (c2 : w.cell? ⟨b, 2, none⟩ = some v2) (c3 : w.cell? ⟨b, 3, none⟩ = some v3) (c4 : w.cell? ⟨b, 4, none⟩ = some v4) (c5 : w.cell? ⟨b, 5, none⟩ = some v5)
    (h1 : ∀ u ∈ [v0, v1, v2, v3, v4, v5], u.oneCell' = true) (hq : q ≤ 4194304) (hbase : base ≤ w.heap.size)
    (hK : ∀ g' c' w', w'.ownsRow base 49 6 (.slice (some ⟨g', 0, none⟩) (q + 1) c') (q + 1) (xs ++ [v0, v1, v2, v3, v4, v5]) → w.grownBy w' (some g) → (g' = g ∨ g' = w.heap.size) →
      K (a.put o.dst (.slice (some ⟨g', 0, none⟩) (q + 1) c')) w') :
    if Region.wanted o (yielded ops a.tmps) = true then Oper.wp Try.prog o a w K Q else E := by
  have hw : Region.wanted o (yielded ops a.tmps) = true := by simp [Region.wanted, hg]
  rw [if_pos hw]
  obtain ⟨i0, hi, hz0, hz1, hz2⟩ := info_parts Try.info49
  obtain ⟨v', w', hrun, r1, r2, r3, r4⟩ := run_append_own_at (P := Try.prog) w base 50 o.type 49 i0 _ 6 112 Try.underlying50 hi hz0 hz1 hz2 (by simp [Value.cells]) (by omega) (.slice (some ⟨g, 0, none⟩) q c) q xs hown ⟨b, 0, none⟩ 1 1 [v0, v1, v2, v3, v4, v5] rfl
    (fun j u hj => by
      match j, hj with
      | 0, hj => simp at hj; subst hj; simpa [Addr.add] using c0
      | 1, hj => simp at hj; subst hj; simpa [Addr.add] using c1
      | 2, hj => simp at hj; subst hj; simpa [Addr.add] using c2
      | 3, hj => simp at hj; subst hj; simpa [Addr.add] using c3
      | 4, hj => simp at hj; subst hj; simpa [Addr.add] using c4
      | 5, hj => simp at hj; subst hj; simpa [Addr.add] using c5
      | n + 6, hj => simp at hj) h1 (by unfold maxLen; omega) (by omega) hbase
  have hform : ∃ g' c', v' = .slice (some ⟨g', 0, none⟩) (q + 1) c' := by
    rcases r1.2 with ⟨_, h⟩ | ⟨g', cap, cur, e, _⟩
    · omega
    · exact ⟨g', cap, e⟩
  obtain ⟨g', c', rfl⟩ := hform
  unfold Oper.wp
  simp [execOp, hop, resolve, invoke, builtin, hs, hx, hrun, Result.andThen]
  refine hK g' c' w' r1 r2 ?_
  rcases r4 with h | h
  · exact .inl (Option.some.inj h)
  · exact .inr (Option.some.inj h)
end Go.Proofs.Ytkjfhlfakoopnaa

