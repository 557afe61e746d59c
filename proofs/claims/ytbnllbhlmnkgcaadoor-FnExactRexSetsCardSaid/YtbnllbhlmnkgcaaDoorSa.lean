/- the sets of a Rex as a list; a set's copy is set behind a row of one's own -/
import Derived.Test.YtbnllbhlmnkgcaaDoorPal
import Derived.Test.YtbnllbhlmnkgcaaDoorYc
import Derived.Laws.OwnMore
namespace Go.Proofs.YtbnllbhlmnkgcaaDoor
open Go.RowKit Go.Shelf
set_option linter.unusedVariables false
set_option linter.unusedSimpArgs false
attribute [local go_sem] Oper.semAt_some

/-- a set: how many spans, their ends -/
abbrev SetV := Nat × (Nat → Int) × (Nat → Int)
def cellsV (s : SetV) : List Value := (List.range (s.1 * 2)).map (flat s.2.1 s.2.2)
theorem cellsV_len (s : SetV) : (cellsV s).length = s.1 * 2 := by simp [cellsV]
def partS (S : Sh) : List SetV := if S.kind = 1 then [(S.n, S.L, S.H)] else []
def setsP (xs : List Part) : List SetV := xs.flatMap fun x => partS x.2.1
theorem setsP_snoc (xs : List Part) (x : Part) : setsP (xs ++ [x]) = setsP xs ++ partS x.2.1 := by simp [setsP]
/-- all sets of a Rex, in order -/
def setsS : Sh → List SetV
  | .node kind n L H m kids => partS (.node kind n L H m kids) ++ catN (fun i => if hi : i < m then setsS (kids ⟨i, hi⟩) else []) m
theorem setsS_mk (kind : Int) (n : Nat) (L H : Nat → Int) (m : Nat) (K : Nat → Sh) : setsS (.mk kind n L H m K) = (if kind = 1 then [(n, L, H)] else []) ++ catN (fun i => setsS (K i)) m := by
  simp only [Sh.mk, setsS, partS]
  rw [catN_congr (g := fun i => setsS (K i)) (fun i hi => by rw [dif_pos hi])]
theorem setsP_cat (f : Nat → List Part) : ∀ m, setsP (catN f m) = catN (fun i => setsP (f i)) m
  | 0 => rfl
  | m + 1 => by
    have := setsP_cat f m
    simp only [catN, setsP, List.flatMap_append] at this ⊢
    rw [this]
theorem sets_parts {S : Sh} : ∀ {d : Nat} {M : Mx}, setsP (partsL S d M) = setsS S := by
  induction S using Sh.ind with
  | h kind n L H m K ih =>
    intro d M
    obtain ⟨sv, kv, M, rfl⟩ := Mx.cases M
    have e0 : setsP ((d, Sh.mk kind n L H m K, Mx.mk sv kv M) :: catN (fun i => partsL (K i) (d + 1) (M i)) m) = partS (Sh.mk kind n L H m K) ++ setsP (catN (fun i => partsL (K i) (d + 1) (M i)) m) := by simp [setsP]
    rw [partsL_mk, e0, setsP_cat, setsS_mk, catN_congr (fun i hi => ih i hi (d := d + 1) (M := M i))]
    rfl

theorem Tryd.info23 : (Tryd.prog.info? 23).map (fun i => (i.zero, i.size, i.bytes)) = some (some (.slice none 0 0), 1, 24) := by kernel_rfl

theorem cellsV_at {w : World} {b off n : Nat} {L H : Nat → Int} (hc : Sp w b off n L H) (j : Nat) (u : Value) (hj : (cellsV (n, L, H))[j]? = some u) : w.cell? ⟨b, off + j, none⟩ = some u := by
  have hlt : j < n * 2 := by
    rcases Nat.lt_or_ge j (n * 2) with h | h
    · exact h
    · rw [List.getElem?_eq_none (by rw [cellsV_len]; exact h)] at hj; cases hj
  simp only [cellsV, List.getElem?_map] at hj
  rw [List.getElem?_range hlt] at hj
  obtain rfl := Option.some.inj hj
  obtain ⟨c1, c2⟩ := hc (j / 2) (by omega)
  rcases Nat.mod_two_eq_zero_or_one j with h | h
  · rw [show off + j / 2 * 2 = off + j by omega] at c1
    rw [c1, flat, if_pos h]
  · rw [show off + j / 2 * 2 + 1 = off + j by omega] at c2
    rw [c2, flat, if_neg (by omega)]

/-- a copy of a set is new memory -/
theorem run_copy (w : World) (ty : TypeId) (ga : Option Addr) (b off cap n : Nat) (L H : Nat → Int) (base : Nat) (v : Value) (hv : w.ownsRow base 77 2 v 0 []) (hbase : base ≤ w.heap.size) (hga : 0 < n → ga = some ⟨b, off, none⟩) (hc : Sp w b off n L H) (hn : n ≤ 4194304) :
    ∃ g' n' c' w', (Builtin.append_ #[23, 23] ty #[v, .slice ga n cap]).run Tryd.prog w = .ok (.slice g' n' c') w' ∧ w'.ownsRow base 77 2 (.slice g' n' c') n (cellsV (n, L, H)) ∧ w.grownBy w' v.ownBlock := by
  obtain ⟨i0, hi, hz0, hz1, hz2⟩ := info_parts Tryd.info77
  cases ga with
  | none =>
    obtain rfl : n = 0 := by
      rcases Nat.eq_zero_or_pos n with h | h
      · exact h
      · cases hga h
    have hr : (Builtin.append_ #[23, 23] ty #[v, .slice none 0 cap]).run Tryd.prog w = .ok v w := by
      rcases hv.2 with ⟨rfl, _⟩ | ⟨g, cap, cur, rfl, _, _, hnc, _⟩
      · simp [Builtin.append_, run_underlying Tryd.underlying23, sizeOf, typeInfo, hi, Builtin.lenOf, Builtin.firstCells]
      · simp [Builtin.append_, run_underlying Tryd.underlying23, sizeOf, typeInfo, hi, Builtin.lenOf, Builtin.firstCells, hnc, storeCells]
    obtain ⟨g', n', c', rfl⟩ : ∃ g' n' c', v = .slice g' n' c' := by
      rcases hv.2 with ⟨e, _⟩ | ⟨g0, cap, cur, e1, _⟩
      · exact ⟨_, _, _, e⟩
      · exact ⟨_, _, _, e1⟩
    exact ⟨g', n', c', w, hr, hv, ⟨rfl, rfl, rfl, Nat.le_refl _, fun _ _ _ => rfl⟩⟩
  | some ad =>
    obtain ⟨v', w', hrun, r1, r2, _⟩ := run_append_own (P := Tryd.prog) w base 23 ty 77 i0 _ 2 16 Tryd.underlying23 hi hz0 hz1 hz2 (by simp [Value.cells]) (by omega) v 0 [] hv ad n cap (cellsV (n, L, H)) (by rw [cellsV_len])
      (fun j u hj => by
        have h0 : 0 < n := by
          rcases Nat.eq_zero_or_pos n with h | h
          · subst h; simp [cellsV] at hj
          · exact h
        obtain rfl := Option.some.inj (hga h0)
        rw [Addr.add_lit]; exact cellsV_at hc j u hj)
      (fun u hu => by
        simp only [cellsV, List.mem_map] at hu
        obtain ⟨j, _, rfl⟩ := hu
        rfl) (by simp only [maxLen]; omega) (by omega) hbase
    obtain ⟨g', n', c', rfl⟩ : ∃ g' n' c', v' = .slice g' n' c' := by
      rcases r1.2 with ⟨e, _⟩ | ⟨g0, cap, cur, e1, _⟩
      · exact ⟨_, _, _, e⟩
      · exact ⟨_, _, _, e1⟩
    exact ⟨g', n', c', w', hrun, by simpa using r1, r2⟩

/-- sets of one's own: the outer row and each set -/
structure Lo (W : World) (base : Nat) (v : Value) (vs : List Value) (ss : List SetV) : Prop where
  row : W.ownsRow base 23 1 v ss.length vs
  sub : ∀ (i : Nat) (x : Value) (s : SetV), vs[i]? = some x → ss[i]? = some s → W.ownsRow base 77 2 x s.1 (cellsV s)
  apart : ∀ (i j : Nat) (x y : Value), vs[i]? = some x → vs[j]? = some y → i ≠ j → x.ownBlock = none ∨ x.ownBlock ≠ y.ownBlock

theorem own_of_block {W W' : World} {base e size : Nat} {v : Value} {n : Nat} {xs : List Value} (h : W.ownsRow base e size v n xs) (hb : ∀ k cur, base ≤ k → v.ownBlock = some k → W.heap[k]? = some (.cells cur e (0, 0)) → W'.heap[k]? = W.heap[k]?) : W'.ownsRow base e size v n xs := by
  refine ⟨h.1, ?_⟩
  rcases h.2 with h | ⟨g, cap, cur, e1, e2, e3, e4⟩
  · exact .inl h
  · exact .inr ⟨g, cap, cur, e1, e2, (hb g cur e2 (by rw [e1]; rfl) e3).trans e3, e4⟩
theorem Lo.keep {W W' : World} {base : Nat} {v : Value} {vs : List Value} {ss : List SetV} (h : Lo W base v vs ss) (hb : ∀ k, base ≤ k → k < W.heap.size → W'.heap[k]? = W.heap[k]?) : Lo W' base v vs ss :=
  ⟨own_of_block h.row (fun k cur h1 _ h3 => hb k h1 (Array.getElem?_eq_some_iff.1 h3).1), fun i x s hx hs => own_of_block (h.sub i x s hx hs) (fun k cur h1 _ h3 => hb k h1 (Array.getElem?_eq_some_iff.1 h3).1), h.apart⟩

theorem Lo.mono {W : World} {base base2 : Nat} {v : Value} {vs : List Value} {ss : List SetV} (h : Lo W base v vs ss) (hb : base2 ≤ base) : Lo W base2 v vs ss :=
  have m : ∀ {e size n : Nat} {v : Value} {xs : List Value}, W.ownsRow base e size v n xs → W.ownsRow base2 e size v n xs := fun h => ⟨h.1, h.2.imp id (fun ⟨g, cap, cur, e1, e2, e3⟩ => ⟨g, cap, cur, e1, Nat.le_trans hb e2, e3⟩)⟩
  ⟨m h.row, fun i x s hx hs => m (h.sub i x s hx hs), h.apart⟩
/-- the box Bw holds sets of one's own -/
def Wo (Bw base : Nat) (vs : List Value) (ss : List SetV) (W : World) (g : Option Addr) (n c : Nat) : Prop :=
  W.cell? ⟨Bw, 0, none⟩ = some (.slice g n c) ∧ W.frozen? ⟨Bw, 0, none⟩ = false ∧ Lo W base (.slice g n c) vs ss
def XS (Bw base : Nat) (k : Nat) (o : Obj) : Prop := k = Bw ∨ (base ≤ k ∧ ∃ cs fr, o = .cells cs 23 fr)
theorem Wo.keeps {Bw base : Nat} {vs : List Value} {ss : List SetV} {W W' : World} {g : Option Addr} {n c : Nat} {Y : Nat → Prop} (h : Wo Bw base vs ss W g n c) (hk : Keeps Y W W') (hY : ∀ k, Y k → k ≠ Bw ∧ k < base) : Wo Bw base vs ss W' g n c :=
  ⟨hk.cell h.1 (fun e => (hY _ e).1 rfl), (hk.frozen h.1 (fun e => (hY _ e).1 rfl)).trans h.2.1, h.2.2.keep (fun k h1 h2 => hk.block k h2 (fun e => by have := (hY _ e).2; omega))⟩
theorem Wo.below {Bw base : Nat} {vs : List Value} {ss : List SetV} {W W' : World} {g : Option Addr} {n c : Nat} (h : Wo Bw base vs ss W g n c) (hb : Below W.heap.size W W') : Wo Bw base vs ss W' g n c :=
  h.keeps (keeps_of_below (fun _ => False) hb) (fun _ e => e.elim)

theorem opIn_copy {o : Oper} {a : Act} {Q : Exit → Act → World → Prop} {K : Act → World → Prop} {w : World} (s x : Operand) {ga : Option Addr} {b off cap n : Nat} {L H : Nat → Int}
    (hop : o.op = Op.call { callee := Callee.builtin Builtin.append, args := #[s, x], argTypes := #[23, 23] })
    (hs : a.eval s = .slice none 0 0) (hx : a.eval x = .slice ga n cap) (hga : 0 < n → ga = some ⟨b, off, none⟩) (hc : Sp w b off n L H) (hn : n ≤ 4194304)
    (hK : ∀ (g' : Option Addr) (n' c' : Nat) (w' : World), Hid (w'.ownsRow w.heap.size 77 2 (.slice g' n' c') n (cellsV (n, L, H))) → Below w.heap.size w w' → K (a.put o.dst (.slice g' n' c')) w') :
    o.wpIn Fence.wide 0 Tryd.prog a w K Q := by
  obtain ⟨g', n', c', w', hrun, r1, r2⟩ := run_copy w o.type ga b off cap n L H w.heap.size (.slice none 0 0) ⟨rfl, .inl ⟨rfl, rfl⟩⟩ (Nat.le_refl _) hga hc hn
  have hbel : Below w.heap.size w w' := ⟨r2.os, r2.tape, r2.output, r2.size, fun k hk => r2.block k hk (by simp [Value.ownBlock])⟩
  unfold Oper.wpIn
  refine ⟨?_, ?_⟩
  · simp [Oper.about, hop, resolve, Target.leads, Sem.run_pure]
  · rw [Oper.semAt_plain Fence.wide _ _ (by rw [hop]; intro c hc'; cases hc')]
    simp [execOp, hop, resolve, invoke, builtin, hs, hx, hrun, Result.andThen]
    exact hK g' n' c' w' r1 hbel

theorem opIn_set {o : Oper} {a : Act} {Q : Exit → Act → World → Prop} {K : Act → World → Prop} {w : World} (s x : Operand) {g : Option Addr} {n c b : Nat} {u : Value} {sv : SetV} {Bw base : Nat} {vs : List Value} {ss : List SetV}
    (hop : o.op = Op.call { callee := Callee.builtin Builtin.append, args := #[s, x], argTypes := #[37, 37] })
    (hs : a.eval s = .slice g n c) (hx : a.eval x = .slice (some ⟨b, 0, none⟩) 1 1) (hc : w.cell? ⟨b, 0, none⟩ = some u) (hu : u.oneCell' = true)
    (hW : Wo Bw base vs ss w g n c) (hl : ss.length ≤ 1000) (hBw : Bw < base) (hb : base ≤ w.heap.size)
    (hown : w.ownsRow base 77 2 u sv.1 (cellsV sv)) (hap : ∀ (i : Nat) (y : Value), vs[i]? = some y → u.ownBlock = none ∨ u.ownBlock ≠ y.ownBlock)
    (hK : ∀ (g' : Option Addr) (n' c' : Nat) (w' : World), w'.cell? ⟨Bw, 0, none⟩ = some (.slice g n c) → w'.frozen? ⟨Bw, 0, none⟩ = false →
      Hid (Wo Bw base (vs ++ [u]) (ss ++ [sv]) (w'.setCell ⟨Bw, 0, none⟩ (.slice g' n' c')) g' n' c' ∧ KeepsO (XS Bw base) w (w'.setCell ⟨Bw, 0, none⟩ (.slice g' n' c'))) → K (a.put o.dst (.slice g' n' c')) w') :
    o.wpIn Fence.wide 0 Tryd.prog a w K Q := by
  obtain ⟨i0, hi, hz0, hz1, hz2⟩ := info_parts Tryd.info23
  obtain ⟨h1, h2, h3⟩ := hW
  have hvl : vs.length = ss.length := by have := h3.row.1; omega
  obtain ⟨v', w', hrun, r1, r2, r3⟩ := run_append_own (P := Tryd.prog) w base 37 o.type 23 i0 _ 1 24 Tryd.underlying37 hi hz0 hz1 hz2 (by simp [Value.cells]) (by omega) (.slice g n c) ss.length vs h3.row ⟨b, 0, none⟩ 1 1 [u] rfl
    (fun j u' hj => by
      cases j with
      | zero => simp at hj; subst hj; simpa [Addr.add] using hc
      | succ j => simp at hj)
    (fun u' hu' => by simp at hu'; subst hu'; exact hu) (by simp only [maxLen]; omega) (by omega) hb
  have hne : ∀ k, (Value.slice g n c).ownBlock = some k → base ≤ k ∧ ∃ cur, w.heap[k]? = some (.cells cur 23 (0, 0)) := fun k hk => by
    rcases h3.row.2 with ⟨e, _⟩ | ⟨g0, cap, cur, e1, e2, e3, _⟩
    · rw [e] at hk; cases hk
    · rw [e1] at hk
      obtain rfl : g0 = k := Option.some.inj hk
      exact ⟨e2, cur, e3⟩
  have hnB : some Bw ≠ (Value.slice g n c).ownBlock := fun e => by have := (hne Bw e.symm).1; omega
  have hBs : w'.heap[Bw]? = w.heap[Bw]? := r2.block Bw (by omega) hnB
  have hcell : w'.cell? ⟨Bw, 0, none⟩ = some (.slice g n c) := (World.cell?_of_block (w := w) hBs).trans h1
  have hfr : w'.frozen? ⟨Bw, 0, none⟩ = false := (World.frozen?_of_block (w := w) hBs).trans h2
  obtain ⟨g', n', c', rfl⟩ : ∃ g' n' c', v' = .slice g' n' c' := by
    rcases r1.2 with ⟨e, _⟩ | ⟨g0, cap, cur, e1, _⟩
    · exact ⟨_, _, _, e⟩
    · exact ⟨_, _, _, e1⟩
  have hkeep : ∀ {y : Value} {m : Nat} {xs : List Value}, w.ownsRow base 77 2 y m xs → (w'.setCell ⟨Bw, 0, none⟩ (.slice g' n' c')).ownsRow base 77 2 y m xs := fun h => by
    refine own_of_block h (fun k cur k1 _ k3 => ?_)
    have hlt := (Array.getElem?_eq_some_iff.1 k3).1
    refine (Below.heap_setCell _ _ _ _ (fun e => by simp at e; omega)).trans (r2.block k hlt (fun e => ?_))
    obtain ⟨_, cur', hcur⟩ := hne k e.symm
    rw [hcur] at k3; cases k3
  have hfin : Hid (Wo Bw base (vs ++ [u]) (ss ++ [sv]) (w'.setCell ⟨Bw, 0, none⟩ (.slice g' n' c')) g' n' c' ∧ KeepsO (XS Bw base) w (w'.setCell ⟨Bw, 0, none⟩ (.slice g' n' c'))) := by
    refine ⟨⟨World.cell?_setCell_same' _ _ _ (by rw [hcell]; rfl), by rw [World.frozen?_setCell]; exact hfr, ⟨?_, fun i x s' hx' hs' => ?_, fun i j x y hx' hy' hij => ?_⟩⟩, ?_⟩
    · have := own_of_block (W' := w'.setCell ⟨Bw, 0, none⟩ (.slice g' n' c')) r1 (fun k cur h1 _ _ => Below.heap_setCell _ _ _ _ (fun e => by simp at e; omega))
      simpa using this
    · by_cases e : i < vs.length
      · rw [List.getElem?_append_left e] at hx'
        rw [List.getElem?_append_left (by omega)] at hs'
        exact hkeep (h3.sub i x s' hx' hs')
      · rw [List.getElem?_append_right (by omega)] at hx' hs'
        rw [hvl] at hx'
        cases hi' : i - ss.length with
        | zero => rw [hi'] at hx' hs'; simp at hx' hs'; subst hx'; subst hs'; exact hkeep hown
        | succ k => rw [hi'] at hx'; simp at hx'
    · have last : ∀ (i : Nat) (x : Value), (vs ++ [u])[i]? = some x → ¬ i < vs.length → i = vs.length ∧ x = u := fun i x hx e => by
        rw [List.getElem?_append_right (by omega)] at hx
        cases hi' : i - vs.length with
        | zero => rw [hi'] at hx; simp at hx; exact ⟨by omega, hx.symm⟩
        | succ k => rw [hi'] at hx; simp at hx
      by_cases e : i < vs.length
      · rw [List.getElem?_append_left e] at hx'
        by_cases e' : j < vs.length
        · rw [List.getElem?_append_left e'] at hy'
          exact h3.apart i j x y hx' hy' hij
        · obtain ⟨_, rfl⟩ := last j y hy' e'
          rcases hap i x hx' with h | h
          · cases hxo : x.ownBlock with
            | none => exact .inl rfl
            | some k => exact .inr (by rw [h]; exact fun e => by cases e)
          · exact .inr (fun e => h e.symm)
      · obtain ⟨_, rfl⟩ := last i x hx' e
        by_cases e' : j < vs.length
        · rw [List.getElem?_append_left e'] at hy'
          exact hap j y hy'
        · obtain ⟨h1, _⟩ := last j y hy' e'
          obtain ⟨h2, _⟩ := last i x hx' e
          omega
    · refine (keepsO_grown (X := XS Bw base) r2 (fun k o' hk ho => .inr ⟨(hne k hk).1, ?_⟩)).trans (keepsO_setCell w' ⟨Bw, 0, none⟩ _ (fun o' _ => .inl rfl))
      obtain ⟨cur, hcur⟩ := (hne k hk).2
      rw [hcur] at ho
      exact ⟨cur, (0, 0), (Option.some.inj ho).symm⟩
  unfold Oper.wpIn
  refine ⟨?_, ?_⟩
  · simp [Oper.about, hop, resolve, Target.leads, Sem.run_pure]
  · rw [Oper.semAt_plain Fence.wide _ _ (by rw [hop]; intro c hc'; cases hc')]
    simp [execOp, hop, resolve, invoke, builtin, hs, hx, hrun, Result.andThen]
    exact hK g' n' c' w' hcell hfr hfin
end Go.Proofs.YtbnllbhlmnkgcaaDoor
