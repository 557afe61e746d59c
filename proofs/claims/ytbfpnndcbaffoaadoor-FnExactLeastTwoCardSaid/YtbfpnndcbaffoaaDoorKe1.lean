/- a list of texts with pairs, and a map of pairs, that a call makes -/
import Derived.Test.YtbfpnndcbaffoaaDoorKc1
import Derived.Maps.OwnOps
import Derived.Maps.OwnSet
import Derived.Maps.Views
import Derived.DeepKeys4
namespace Go.Proofs.YtbfpnndcbaffoaaDoor
open Go.RowKit Go.Shelf
set_option linter.unusedVariables false
set_option linter.unusedSimpArgs false

/-- an entry as cells -/
def encE (e : Ent) : List Value := [.string e.2.2, .int .i64 e.1, .int .i64 e.2.1]
theorem flatE : ∀ {L : List Ent} {i : Nat} {e : Ent}, L[i]? = some e → ∀ j, j < 3 → (L.flatMap encE)[i * 3 + j]? = (encE e)[j]?
  | a :: L, 0, e, h, j, hj => by
    simp only [List.getElem?_cons_zero, Option.some.injEq] at h
    subst h
    rw [List.flatMap_cons, List.getElem?_append_left (by simp [encE]; omega)]
    simp
  | a :: L, i + 1, e, h, j, hj => by
    rw [List.getElem?_cons_succ] at h
    rw [List.flatMap_cons, List.getElem?_append_right (by simp [encE]; omega)]
    rw [← flatE h j hj]
    congr 1
    simp [encE]
    omega
theorem Tryd.infoMade : (Tryd.prog.info? 69).map (fun i => (i.zero, i.size, i.bytes)) = some (some (.agg #[.string ⟨#[]⟩, .int .i64 0, .int .i64 0]), 3, 32) := by kernel_rfl
theorem cell_three_new (w : World) (x y z : Value) (t : TypeId) : ∀ j u, [x, y, z][j]? = some u → (w.alloc (.cells #[x, y, z] t)).cell? ((⟨w.heap.size, 0, none⟩ : Addr).add j) = some u := by
  intro j u hj
  match j, hj with
  | 0, hj => simp at hj; subst hj; simp [Addr.add]
  | 1, hj => simp at hj; subst hj; simp [Addr.add]
  | 2, hj => simp at hj; subst hj; simp [Addr.add]

/-- the list lies there -/
def Mt3 (W : World) (base : Nat) (L : List Ent) (m g c : Nat) : Prop := L.length = m ∧ W.ownsRow base 69 3 (.slice (some ⟨g, 0, none⟩) m c) m (L.flatMap encE)
theorem Mt3.at {W : World} {base : Nat} {L : List Ent} {m g c : Nat} (h : Mt3 W base L m g c) {i : Nat} {e : Ent} (he : L[i]? = some e) :
    W.cell? ⟨g, i * 3, none⟩ = some (.string e.2.2) ∧ W.cell? ⟨g, i * 3 + 1, none⟩ = some (.int .i64 e.1) ∧ W.cell? ⟨g, i * 3 + 2, none⟩ = some (.int .i64 e.2.1) := by
  have hi : i < m := by
    have := (List.getElem?_eq_some_iff.1 he).1
    rw [h.1] at this
    exact this
  refine ⟨?_, ?_, ?_⟩
  · have := flatE he 0 (by omega)
    rw [Nat.add_zero] at this
    rw [h.2.cellAt (i * 3) (by omega), this]; rfl
  · rw [h.2.cellAt (i * 3 + 1) (by omega), flatE he 1 (by omega)]; rfl
  · rw [h.2.cellAt (i * 3 + 2) (by omega), flatE he 2 (by omega)]; rfl
theorem Mt3.blk {W W' : World} {base : Nat} {L : List Ent} {m g c : Nat} (h : Mt3 W base L m g c) (hb : W'.heap[g]? = W.heap[g]?) : Mt3 W' base L m g c := ⟨h.1, own_blk h.2 hb⟩
theorem Mt3.lt {W : World} {base : Nat} {L : List Ent} {m g c : Nat} (h : Mt3 W base L m g c) : base ≤ g ∧ g < W.heap.size := ⟨(own_lt h.2).1, (own_lt h.2).2.1⟩
theorem Mt3.below {W W' : World} {base : Nat} {L : List Ent} {m g c : Nat} (h : Mt3 W base L m g c) (hb : Below W.heap.size W W') : Mt3 W' base L m g c := ⟨h.1, own_below h.2 hb⟩

/-! the map of pairs -/
theorem laidP : laidOutB Tryd.prog = true := by kernel_rfl
theorem keyedP : Maps.Keyed Tryd.prog 67 := Maps.Keyed.of_law (deep_law_laid laidP (m := 5) (by omega) (of_decide_eq_true (by kernel_rfl)) (by kernel_rfl) (by kernel_rfl))
theorem zeroU (w : World) : (zeroValue 71).run Tryd.prog w = .ok (.agg #[]) w := by kernel_rfl
/-- two numbers, as a key -/
def klp (x y : Int) : Lit := .string (keyBytes [.int .i64 x, .int .i64 y])
theorem sizeP : Tryd.prog.types.size = 124 := by kernel_rfl
theorem cellsP : Tryd.prog.cellsOf 67 = 2 := by kernel_rfl
theorem cellsP3 : Tryd.prog.cellsOf 3 = 1 := by kernel_rfl
theorem ktP : Tryd.prog.keyType 67 = true := by kernel_rfl
theorem wf_small (i : Int) (h : -1 ≤ i ∧ i ≤ 1000000) : (Lit.int .i64 i).wf = true := by
  have e1 : IntKind.i64.min = -9223372036854775808 := by decide
  have e2 : IntKind.i64.max = 9223372036854775807 := by decide
  simp [Lit.wf, e1, e2]
  omega
theorem keyOf_two {P : Program} {k : TypeId} {f0 f1 : Field} (hu : P.underlying k = some (.struct #[f0, f1])) (hk : P.keyType k = true) (hc : P.cellsOf k = 2) {d : Nat} (hts : P.types.size = d + 1)
    (t0 : f0.type = 3) (o0 : f0.offset = 0) (n0 : (f0.name != "_") = true) (t1 : f1.type = 3) (o1 : f1.offset = 1) (n1 : (f1.name != "_") = true) (h3 : P.underlying 3 = some (.int .i64)) (hc3 : P.cellsOf 3 = 1) {i j : Int} (w1 : (Lit.int .i64 i).wf = true) (w2 : (Lit.int .i64 j).wf = true) :
    keyOf P k (.agg #[.int .i64 i, .int .i64 j]) = some (.string (keyBytes [.int .i64 i, .int .i64 j])) := by
  simp only [bne_iff_ne, ne_eq] at n0 n1
  simp [keyOf, hu, hk, Value.formed, hc, Value.cells, hts, Program.keyLits, t0, t1, o0, o1, n0, n1, hc3, h3, w1, w2]
theorem klp_eq {x y : Int} (hx : -1 ≤ x ∧ x ≤ 1000000) (hy : -1 ≤ y ∧ y ≤ 1000000) : keyOf Tryd.prog 67 (.agg #[.int .i64 x, .int .i64 y]) = some (klp x y) :=
  keyOf_two (d := 123) Tryd.underlying67 ktP cellsP sizeP rfl rfl rfl rfl rfl rfl Tryd.underlying3 cellsP3 (wf_small x hx) (wf_small y hy)
theorem klp_ne {x y x' y' : Int} (hx : -1 ≤ x ∧ x ≤ 1000000) (hy : -1 ≤ y ∧ y ≤ 1000000) (hx' : -1 ≤ x' ∧ x' ≤ 1000000) (hy' : -1 ≤ y' ∧ y' ≤ 1000000) (h : ¬ (x = x' ∧ y = y')) : klp x y ≠ klp x' y' := by
  intro e
  have h1 := klp_eq hx hy
  have h2 := klp_eq hx' hy'
  rw [e] at h1
  have := keyedP.inj h1 h2
  simp at this
  omega
/-- which pairs are known -/
def Mq (w : World) (b n : Nat) (F : Int → Int → Bool) : Prop := ∃ D : DataW Unit, w.ownsMap Tryd.prog 67 unitElem b n D ∧ ∀ x y, (-1 ≤ x ∧ x ≤ 1000000) → (-1 ≤ y ∧ y ≤ 1000000) → Maps.has D (klp x y) = F x y
theorem Mq.look {w : World} {b n : Nat} {F : Int → Int → Bool} (h : Mq w b n F) {x y : Int} (hx : -1 ≤ x ∧ x ≤ 1000000) (hy : -1 ≤ y ∧ y ≤ 1000000) :
    (Instr.lookup 72 (.map (some b)) (.agg #[.int .i64 x, .int .i64 y]) true).run Tryd.prog w = .ok (.tuple #[.agg #[], .bool (F x y)]) w := by
  obtain ⟨D, hown, hD⟩ := h
  obtain ⟨v, ps, hrun, hv⟩ := hown.look_ok (zd := .agg []) (zp := []) keyedP Tryd.underlying72 (zeroU w) unitElem_mk (klp_eq hx hy)
  obtain ⟨rfl, _⟩ := unitElem_inv hv
  rw [hrun, hD x y hx hy]
theorem Mq.blk {w w' : World} {b n : Nat} {F : Int → Int → Bool} (h : Mq w b n F) (hb : w'.heap[b]? = w.heap[b]?) : Mq w' b n F := by
  obtain ⟨D, ⟨es, clock, h1, h2⟩, hD⟩ := h
  exact ⟨D, ⟨es, clock, hb.trans h1, h2⟩, hD⟩
theorem Mq.lt {w : World} {b n : Nat} {F : Int → Int → Bool} (h : Mq w b n F) : b < w.heap.size ∧ ∃ es clock, w.heap[b]? = some (.map es clock) := by
  obtain ⟨D, ⟨es, clock, h1, h2⟩, hD⟩ := h
  exact ⟨(Array.getElem?_eq_some_iff.1 h1).1, es, clock, h1⟩
theorem Mq.below {w w' : World} {b n : Nat} {F : Int → Int → Bool} (h : Mq w b n F) (hb : Below w.heap.size w w') : Mq w' b n F := h.blk (hb.block b h.lt.1)
theorem Mq.made (w : World) : Mq (w.alloc (.map #[] 0)) w.heap.size 0 (fun _ _ => false) := ⟨.map [], World.ownsMap_made w _ _ _, fun x y _ _ => rfl⟩
theorem Mq.put {w : World} {b n : Nat} {F : Int → Int → Bool} (h : Mq w b n F) (hn : n ≤ 1000000000000) {x y : Int} (hx : -1 ≤ x ∧ x ≤ 1000000) (hy : -1 ≤ y ∧ y ≤ 1000000) :
    ∃ w', (Instr.mapUpdate 72 (.map (some b)) (.agg #[.int .i64 x, .int .i64 y]) (.agg #[])).run Tryd.prog w = .ok () w' ∧ Mq w' b (n + 1) (fun x' y' => F x' y' || (x == x' && y == y')) ∧ w.grownBy w' (some b) := by
  obtain ⟨D, hown, hD⟩ := h
  obtain ⟨w', hrun, hown', hgr⟩ := hown.update keyedP Tryd.underlying72 (by unfold maxLen; omega) (klp_eq hx hy) unitElem_mk
  refine ⟨w', hrun, ⟨_, hown', fun x' y' hx' hy' => ?_⟩, hgr⟩
  by_cases e : x' = x ∧ y' = y
  · obtain ⟨rfl, rfl⟩ := e
    obtain ⟨es, _, _, _, _, rfl⟩ := hown
    rw [Maps.has_put_same ⟨_, rfl⟩ (keyedP.key (klp_eq hx' hy'))]
    simp
  · rw [Maps.has_put_other (klp_ne hx' hy' hx hy e), hD x' y' hx' hy']
    have : (x == x' && y == y') = false := by
      rw [Bool.and_eq_false_iff]
      by_cases e1 : x = x'
      · right
        have : ¬ y = y' := fun e2 => e ⟨e1.symm, e2.symm⟩
        simpa using this
      · left; simpa using e1
    show F x' y' = (F x' y' || (x == x' && y == y'))
    rw [this, Bool.or_false]
theorem Mq.congr {w : World} {b n : Nat} {F G : Int → Int → Bool} (h : Mq w b n F) (e : ∀ x y, F x y = G x y) : Mq w b n G := by
  obtain ⟨D, h1, hD⟩ := h
  exact ⟨D, h1, fun x y hx hy => by rw [hD x y hx hy, e]⟩
theorem Mt3.ne_map {W : World} {base : Nat} {L : List Ent} {m g c b n : Nat} {F : Int → Int → Bool} (h : Mt3 W base L m g c) (h' : Mq W b n F) : g ≠ b := by
  obtain ⟨_, _, cur, e1⟩ := own_lt h.2
  obtain ⟨_, es, clock, e2⟩ := h'.lt
  intro e
  rw [e, e2] at e1
  cases e1
end Go.Proofs.YtbfpnndcbaffoaaDoor

