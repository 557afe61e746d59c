/- the walk of spec.RexSets -/
import Derived.Test.YtbnllbhlmnkgcaaDoorSb
import Derived.OwnWalk
namespace Go.Proofs.YtbnllbhlmnkgcaaDoor
open Go.RowKit Go.Shelf
set_option linter.unusedVariables false
set_option linter.unusedSimpArgs false

/-- sets of one's own, not all of them apart -/
structure Lp (W : World) (base : Nat) (v : Value) (vs : List Value) (ss : List SetV) : Prop where
  row : W.ownsRow base 23 1 v ss.length vs
  sub : ∀ (i : Nat) (x : Value) (s : SetV), vs[i]? = some x → ss[i]? = some s → W.ownsRow base 77 2 x s.1 (cellsV s)
theorem Lo.lp {W : World} {base : Nat} {v : Value} {vs : List Value} {ss : List SetV} (h : Lo W base v vs ss) : Lp W base v vs ss := ⟨h.row, h.sub⟩
theorem own_mono {W : World} {base base2 e size n : Nat} {v : Value} {xs : List Value} (hb : base2 ≤ base) (h : W.ownsRow base e size v n xs) : W.ownsRow base2 e size v n xs :=
  ⟨h.1, h.2.imp id (fun ⟨g, cap, cur, e1, e2, e3⟩ => ⟨g, cap, cur, e1, Nat.le_trans hb e2, e3⟩)⟩
theorem Lp.mono {W : World} {base base2 : Nat} {v : Value} {vs : List Value} {ss : List SetV} (h : Lp W base v vs ss) (hb : base2 ≤ base) : Lp W base2 v vs ss :=
  ⟨own_mono hb h.row, fun i x s hx hs => own_mono hb (h.sub i x s hx hs)⟩
theorem Lp.below {W W' : World} {base : Nat} {v : Value} {vs : List Value} {ss : List SetV} (h : Lp W base v vs ss) (hb : Below W.heap.size W W') : Lp W' base v vs ss :=
  ⟨own_below h.row hb, fun i x s hx hs => own_below (h.sub i x s hx hs) hb⟩
theorem Lp.one {W : World} {base : Nat} {v : Value} {vs : List Value} {ss : List SetV} (h : Lp W base v vs ss) : ∀ u ∈ vs, u.oneCell' = true := fun u hu => by
  obtain ⟨i, hi, rfl⟩ := List.getElem_of_mem hu
  have hl : vs.length = ss.length := by have := h.row.1; omega
  have := h.sub i vs[i] (ss[i]'(by omega)) (List.getElem?_eq_getElem hi) (List.getElem?_eq_getElem (by omega))
  rcases this.2 with ⟨e, _⟩ | ⟨_, _, _, e, _⟩ <;> rw [e] <;> rfl

/-- one list of sets is set behind another -/
theorem run_join (w : World) (ty : TypeId) (base base2 : Nat) (v v2 : Value) (vs vs2 : List Value) (ss ss2 : List SetV) (h : Lp w base v vs ss) (h2 : Lp w base2 v2 vs2 ss2) (hb : base ≤ w.heap.size) (hb2 : base ≤ base2) (hl : ss.length + ss2.length ≤ 4194304) :
    ∃ g' n' c' w', (Builtin.append_ #[37, 37] ty #[v, v2]).run Tryd.prog w = .ok (.slice g' n' c') w' ∧ Lp w' base (.slice g' n' c') (vs ++ vs2) (ss ++ ss2) ∧ Below base w w' := by
  obtain ⟨i0, hi, hz0, hz1, hz2⟩ := info_parts Tryd.info23
  have hvl : vs.length = ss.length := by have := h.row.1; omega
  have hvl2 : vs2.length = ss2.length := by have := h2.row.1; omega
  have hrun : ∃ v' w', (Builtin.append_ #[37, 37] ty #[v, v2]).run Tryd.prog w = .ok v' w' ∧ w'.ownsRow base 23 1 v' (ss.length + ss2.length) (vs ++ vs2) ∧ w.grownBy w' v.ownBlock := by
    rcases h2.row.2 with ⟨rfl, e0⟩ | ⟨g, cap, cur, rfl, e2, e3, e4, e5, e6, e7⟩
    · have hv0 : vs2 = [] := List.length_eq_zero_iff.1 (by omega)
      subst hv0
      refine ⟨v, w, run_append_owned_none (P := Tryd.prog) w base 37 ty 23 i0 1 Tryd.underlying37 hi v _ vs h.row, ?_, ⟨rfl, rfl, rfl, Nat.le_refl _, fun _ _ _ => rfl⟩⟩
      rw [e0, List.append_nil, Nat.add_zero]
      exact h.row
    · obtain ⟨v', w', hrun, r1, r2, _⟩ := run_append_own (P := Tryd.prog) w base 37 ty 23 i0 _ 1 24 Tryd.underlying37 hi hz0 hz1 hz2 (by simp [Value.cells]) (by omega) v ss.length vs h.row ⟨g, 0, none⟩ ss2.length cap vs2 (by omega)
        (fun j u hj => by
          have hlt : j < ss2.length * 1 := by have := (List.getElem?_eq_some_iff.1 hj).1; omega
          rw [Addr.add_lit, Nat.zero_add, h2.row.cellAt j hlt]
          exact hj) h2.one (by simp only [maxLen]; omega) (by omega) hb
      exact ⟨v', w', hrun, r1, r2⟩
  obtain ⟨v', w', hrun, r1, r2⟩ := hrun
  obtain ⟨g', n', c', rfl⟩ : ∃ g' n' c', v' = .slice g' n' c' := by
    rcases r1.2 with ⟨e, _⟩ | ⟨g0, cap, cur, e1, _⟩
    · exact ⟨_, _, _, e⟩
    · exact ⟨_, _, _, e1⟩
  have hne : ∀ k, v.ownBlock = some k → base ≤ k ∧ ∃ cur, w.heap[k]? = some (.cells cur 23 (0, 0)) := fun k hk => by
    rcases h.row.2 with ⟨e, _⟩ | ⟨g0, cap, cur, e1, e2, e3, _⟩
    · rw [e] at hk; cases hk
    · rw [e1] at hk
      obtain rfl : g0 = k := Option.some.inj hk
      exact ⟨e2, cur, e3⟩
  have hkeep : ∀ {y : Value} {m : Nat} {xs : List Value}, w.ownsRow base 77 2 y m xs → w'.ownsRow base 77 2 y m xs := fun h => by
    refine own_of_block h (fun k cur k1 _ k3 => r2.block k (Array.getElem?_eq_some_iff.1 k3).1 (fun e => ?_))
    obtain ⟨_, cur', hcur⟩ := hne k e.symm
    rw [hcur] at k3; cases k3
  refine ⟨g', n', c', w', hrun, ⟨by rw [List.length_append]; exact r1, fun i x s hx hs => hkeep ?_⟩, ⟨r2.os, r2.tape, r2.output, r2.size, fun k hk => r2.block k (by omega) (fun e => by have := (hne k e.symm).1; omega)⟩⟩
  by_cases e : i < vs.length
  · rw [List.getElem?_append_left e] at hx
    rw [List.getElem?_append_left (by omega)] at hs
    exact h.sub i x s hx hs
  · rw [List.getElem?_append_right (by omega)] at hx hs
    rw [hvl] at hx
    exact own_mono hb2 (h2.sub _ x s hx hs)

theorem wpList_join {w : World} {ops : Array Oper} {rest : List Oper} {o : Oper} {a : Act} {Q : Exit → Act → World → Prop} (hgd : o.guard = none) (s x : Operand)
    (ho : o.op = .call { callee := .builtin .append, args := #[s, x], argTypes := #[37, 37] }) (base base2 : Nat) (v v2 : Value) (vs vs2 : List Value) (ss ss2 : List SetV) (hs : a.eval s = v) (hx : a.eval x = v2)
    (h : Lp w base v vs ss) (h2 : Lp w base2 v2 vs2 ss2) (hb : base ≤ w.heap.size) (hb2 : base ≤ base2) (hl : ss.length + ss2.length ≤ 4194304)
    (hK : ∀ (g' : Option Addr) (n' c' : Nat) (w' : World), Hid (Lp w' base (.slice g' n' c') (vs ++ vs2) (ss ++ ss2)) → Below base w w' → wpList Tryd.prog ops Q rest (a.put o.dst (.slice g' n' c')) w') : wpList Tryd.prog ops Q (o :: rest) a w :=
  wpList_plain hgd fun _ hK' => by
    obtain ⟨g', n', c', w', hr, h3, h4⟩ := run_join w o.type base base2 v v2 vs vs2 ss ss2 h h2 hb hb2 hl
    unfold Oper.wp execOp
    simp only [ho, resolve, invoke, builtin, Sem.run_bind, Sem.run_pure, Result.andThen_ok, List.map_toArray, List.map_cons, List.map_nil, hs, hx, hr]
    exact hK' _ _ (hK g' n' c' w' h3 h4)
theorem wpList_copy {w : World} {ops : Array Oper} {rest : List Oper} {o : Oper} {a : Act} {Q : Exit → Act → World → Prop} (hgd : o.guard = none) (s x : Operand)
    (ho : o.op = .call { callee := .builtin .append, args := #[s, x], argTypes := #[23, 23] }) (base : Nat) (v : Value) (ga : Option Addr) (b off cap n : Nat) (L H : Nat → Int) (hs : a.eval s = v) (hx : a.eval x = .slice ga n cap)
    (hv : w.ownsRow base 77 2 v 0 []) (hbase : base ≤ w.heap.size) (hga : 0 < n → ga = some ⟨b, off, none⟩) (hc : Sp w b off n L H) (hn : n ≤ 4194304)
    (hK : ∀ (g' : Option Addr) (n' c' : Nat) (w' : World), Hid (w'.ownsRow base 77 2 (.slice g' n' c') n (cellsV (n, L, H))) → Below base w w' → wpList Tryd.prog ops Q rest (a.put o.dst (.slice g' n' c')) w') : wpList Tryd.prog ops Q (o :: rest) a w :=
  wpList_plain hgd fun _ hK' => by
    obtain ⟨g', n', c', w', hr, h3, h4⟩ := run_copy w o.type ga b off cap n L H base v hv hbase hga hc hn
    have hbel : Below base w w' := ⟨h4.os, h4.tape, h4.output, h4.size, fun k hk => h4.block k (by omega) (fun e => by
      rcases hv.2 with ⟨e', _⟩ | ⟨g0, cap, cur, e1, e2, _⟩
      · rw [e'] at e; cases e
      · rw [e1] at e
        have : k = g0 := Option.some.inj e
        omega)⟩
    unfold Oper.wp execOp
    simp only [ho, resolve, invoke, builtin, Sem.run_bind, Sem.run_pure, Result.andThen_ok, List.map_toArray, List.map_cons, List.map_nil, hs, hx, hr]
    exact hK' _ _ (hK g' n' c' w' h3 hbel)

theorem length_cat {α : Type} (f : Nat → List α) (g : Nat → Nat) : ∀ m, (∀ i, i < m → (f i).length ≤ g i + 1) → (catN f m).length ≤ sumN g m + m
  | 0, _ => by simp [catN]
  | m + 1, h => by
    have h1 := length_cat f g m (fun i hi => h i (by omega))
    have h2 := h m (by omega)
    simp only [catN, sumN, List.length_append]
    omega
theorem setsS_len (S : Sh) : (setsS S).length ≤ cnt S + 1 := by
  induction S using Sh.ind with
  | h kind n L H m K ih =>
    rw [setsS_mk, cnt_mk, List.length_append]
    have h1 := length_cat (fun i => setsS (K i)) (fun i => cnt (K i)) m ih
    have h2 : (if kind = 1 then [(n, L, H)] else [] : List SetV).length ≤ 1 := by split <;> simp
    omega

def SpRes (ss : List SetV) (w : World) (e : Ending) (w' : World) : Prop := ∃ g n c vs, e = .returned (.slice g n c) ∧ Lp w' w.heap.size (.slice g n c) vs ss ∧ Below w.heap.size w w'

set_option maxRecDepth 100000 in
set_option maxHeartbeats 2000000 in
theorem l2Sets_any (S : Sh) : ∀ (M : Mx) (w : World), In AnyB w S M → cnt S ≤ 1048576 → Calls Tryd.prog 90 #[vx S M] w (SpRes (setsS S) w) := by
  induction S using Sh.ind with
  | h kind n L H m K ih =>
    intro M w h hcnt
    obtain ⟨sv, kv, M, rfl⟩ := Mx.cases M
    obtain ⟨a, b, off, cap, a', b', off', cap', e1, hn, hs, hl, e2, hm, hl', hk⟩ := h
    obtain rfl : sv = _ := e1
    obtain rfl : kv = _ := e2
    simp only [Mx.mk_kid] at hk
    simp only [vx, Sh.mk_kind, Mx.mk_sv, Mx.mk_kv]
    have HLEN : Hid (∀ j, j ≤ m → ((if kind = 1 then [(n, L, H)] else [] : List SetV) ++ catN (fun i => setsS (K i)) j).length ≤ 1048577) := fun j hj => by
      have h0 := setsS_len (.mk kind n L H m K)
      rw [setsS_mk] at h0
      have h1 := (catN_pre (fun i => setsS (K i)) hj).length_le
      rw [List.length_append] at h0 ⊢
      omega
    have HIH : Hid (∀ i, i < m → ∀ w1, Below w.heap.size w w1 → Calls Tryd.prog 90 #[vx (K i) (M i)] w1 (SpRes (setsS (K i)) w1)) := fun i hi w1 hb =>
      ih i hi (M i) w1 ((hk i hi).2.below hb) (by rw [cnt_mk] at hcnt; have := sumN_at (f := fun i => cnt (K i)) hi; omega)
    have HK : Hid (∀ i, i < m → Kid w b' (off' + i * 3) (K i) (M i)) := fun i hi => (hk i hi).1
    have HSET : Hid (setsS (.mk kind n L H m K) = (if kind = 1 then [(n, L, H)] else []) ++ catN (fun i => setsS (K i)) m) := setsS_mk kind n L H m K
    have hm20 : m ≤ 1048576 := by rw [cnt_mk] at hcnt; omega
    have hn20 : n ≤ 1048576 := by rw [cnt_mk] at hcnt; omega
    have hB0 : Below w.heap.size w ((w.alloc (.cells #[.int .i64 kind, .slice a n cap, .slice a' m cap'] 26)).alloc (.cells #[] 23)) := ((Below.refl _ _).alloc (Nat.le_refl _) _).alloc (by simp) _
    have HL0 : Hid (Lp ((w.alloc (.cells #[.int .i64 kind, .slice a n cap, .slice a' m cap'] 26)).alloc (.cells #[] 23)) (w.heap.size + 1) (.slice (some ⟨w.heap.size + 1, 0, none⟩) 0 0) [] []) := by
      have := World.ownsRow_lit (base := w.heap.size + 1) (e := 23) (size := 1) (w.alloc (.cells #[.int .i64 kind, .slice a n cap, .slice a' m cap'] 26)) #[] 0 (by simp) (by simp [maxLen]) (by simp)
      exact ⟨by simpa using this, fun i x s hx => by simp at hx⟩
    have HSP : Hid (Sp w b off n L H ∧ (0 < n → a = some ⟨b, off, none⟩)) := ⟨hs, fun h => (hn h).1⟩
    clear ih hk hs hn hl hl' hcnt
    by_cases hone : kind = 1
    · rw [if_pos hone] at HLEN HSET
      have hk1 : (kind == 1) = true := by simpa using hone
      clear hone
      have HV0 : Hid ((((w.alloc (.cells #[.int .i64 kind, .slice a n cap, .slice a' m cap'] 26)).alloc (.cells #[] 23)).alloc (.cells #[] 77)).ownsRow (w.heap.size + 2) 77 2 (.slice (some ⟨w.heap.size + 1 + 1, 0, none⟩) 0 0) 0 []) := by
        have := World.ownsRow_lit (base := w.heap.size + 2) (e := 77) (size := 2) ((w.alloc (.cells #[.int .i64 kind, .slice a n cap, .slice a' m cap'] 26)).alloc (.cells #[] 23)) #[] 0 (by simp) (by simp [maxLen]) (by simp)
        rw [Hid]; simpa using this
      have hBD : Below w.heap.size w (((w.alloc (.cells #[.int .i64 kind, .slice a n cap, .slice a' m cap'] 26)).alloc (.cells #[] 23)).alloc (.cells #[] 77)) := hB0.alloc hB0.size _
      have HSD : Hid (Sp (((w.alloc (.cells #[.int .i64 kind, .slice a n cap, .slice a' m cap'] 26)).alloc (.cells #[] 23)).alloc (.cells #[] 77)) b off n L H) := HSP.out.1.below hBD
      have hDs : w.heap.size + 2 ≤ (((w.alloc (.cells #[.int .i64 kind, .slice a n cap, .slice a' m cap'] 26)).alloc (.cells #[] 23)).alloc (.cells #[] 77)).heap.size := by simp
      have hn22 : n ≤ 4194304 := by omega
      have HJN : Hid (∀ (ug : Option Addr) (un uc : Nat) (w3 : World), Below (w.heap.size + 2) (((w.alloc (.cells #[.int .i64 kind, .slice a n cap, .slice a' m cap'] 26)).alloc (.cells #[] 23)).alloc (.cells #[] 77)) w3 → Lp (w3.alloc (.cells #[.slice ug un uc] 23)) (w.heap.size + 1) (.slice (some ⟨w.heap.size + 1, 0, none⟩) 0 0) [] []) := fun ug un uc w3 hb => by
        refine ⟨⟨rfl, .inr ⟨w.heap.size + 1, 0, #[], rfl, Nat.le_refl _, ?_, Nat.le_refl _, by simp [maxLen], rfl, rfl⟩⟩, fun i x s hx => by simp at hx⟩
        have h3 := hb.size
        rw [Below.heap_alloc _ _ _ (by omega), hb.block _ (by omega), Below.heap_alloc _ _ _ (by simp)]
        have := World.alloc_heap_new (w.alloc (.cells #[.int .i64 kind, .slice a n cap, .slice a' m cap'] 26)) (.cells #[] 23)
        rwa [World.size_alloc] at this
      have HJO : Hid (∀ (ug : Option Addr) (un uc : Nat) (w3 : World), w3.ownsRow (w.heap.size + 2) 77 2 (.slice ug un uc) n (cellsV (n, L, H)) → w.heap.size + 1 ≤ w3.heap.size → Lp (w3.alloc (.cells #[.slice ug un uc] 23)) (w.heap.size + 1) (.slice (some ⟨w3.heap.size, 0, none⟩) 1 1) [.slice ug un uc] [(n, L, H)]) := fun ug un uc w3 h hb => by
        have h1 := World.ownsRow_lit (base := w.heap.size + 1) (e := 23) (size := 1) w3 #[.slice ug un uc] 1 hb (by simp [maxLen]) (by simp)
        refine ⟨h1, fun i x s hx hs => ?_⟩
        cases i with
        | zero => simp at hx hs; subst hx; subst hs; exact own_below (own_mono (by omega) h) ((Below.refl _ _).alloc (Nat.le_refl _) _)
        | succ i => simp at hx
      have r2 : (((w.alloc (.cells #[.int .i64 kind, .slice a n cap, .slice a' m cap'] 26)).alloc (.cells #[] 23)).alloc (.cells #[] 77)).cell? ⟨w.heap.size, 2, none⟩ = some (.slice a' m cap') := by simp [go_sem]
      have hc1 : (((w.alloc (.cells #[.int .i64 kind, .slice a n cap, .slice a' m cap'] 26)).alloc (.cells #[] 23)).alloc (.cells #[] 77)).cell? ⟨w.heap.size, 1, none⟩ = some (.slice a n cap) := by simp [go_sem]
      go_enter Tryd.func90, Tryd.ntmps90
      go_wp2_with (at_builtin; first
        | (refine wpList_copy rfl _ _ rfl (w.heap.size + 2) _ a b off cap n L H rfl rfl HV0.out hDs HSP.out.2 HSD.out hn22 ?_; intro ug un uc w3 HU hb3)
        | (refine wpList_join rfl _ _ rfl (w.heap.size + 1) (w.heap.size + 1) _ _ [] [.slice ug un uc] [] [(n, L, H)] rfl rfl (HJN.out _ _ _ _ hb3) (HJO.out _ _ _ _ HU.out (by have := hb3.size; omega)) (by have := hb3.size; simp only [World.size_alloc]; omega) (Nat.le_refl _) (by simp) ?_; intro g4 n4 c4 w4 HJ4 hb4))
      have hs3 := hb3.size
      have hb34 : Below (w.heap.size + 1) (((w.alloc (.cells #[.int .i64 kind, .slice a n cap, .slice a' m cap'] 26)).alloc (.cells #[] 23)).alloc (.cells #[] 77)) w4 := ((hb3.mono (by omega)).alloc (by omega) _).trans hb4
      have r4 : w4.cell? ⟨w.heap.size, 2, none⟩ = some (.slice a' m cap') := (hb34.cell (p := ⟨w.heap.size, 2, none⟩) (by simp)).trans r2
      have hB4 : Below w.heap.size w w4 := hBD.trans (hb34.mono (by omega))
      go_loopw [3, 4] (fun t i wr => ∃ (j : Nat) (g : Option Addr) (gn gc : Nat) (vs : List Value), j ≤ m ∧ i = .int .i64 j ∧ t = .slice g gn gc ∧ Hid (Lp wr (w.heap.size + 1) (.slice g gn gc) vs ([(n, L, H)] ++ catN (fun i => setsS (K i)) j)) ∧ wr.cell? ⟨w.heap.size, 2, none⟩ = some (.slice a' m cap') ∧ Below w.heap.size w wr) (fun _ i _ => m - (intOf i).toNat)
      case atStart => exact ⟨0, _, _, _, _, Nat.zero_le _, rfl, rfl, HJ4, r4, hB4⟩
      case round =>
        obtain ⟨j, g, gn, gc, vs, hj, rfl, rfl, HJ, hbox, hB⟩ := hrel
        by_cases hlt : j < m
        · obtain rfl := (hm (by omega)).1
          have hltz : (j : Int) < (m : Int) := by omega
          obtain ⟨c1, c2, c3⟩ := HK.out j hlt
          have d1 : wr.cell? ⟨b', off' + j * 3, none⟩ = _ := (hB.cell (p := ⟨b', _, none⟩) (World.block_lt_of_cell? _ _ c1)).trans c1
          have d2 : wr.cell? ⟨b', off' + j * 3 + 1, none⟩ = _ := (hB.cell (p := ⟨b', _, none⟩) (World.block_lt_of_cell? _ _ c2)).trans c2
          have d3 : wr.cell? ⟨b', off' + j * 3 + 2, none⟩ = _ := (hB.cell (p := ⟨b', _, none⟩) (World.block_lt_of_cell? _ _ c3)).trans c3
          clear c1 c2 c3
          have hwr : w.heap.size < wr.heap.size := World.block_lt_of_cell? _ _ hbox
          go_wp2_with fail
          refine (HIH.out j hlt wr hB).mono ?_
          rintro e w2 ⟨g2, n2, c2, vs2, rfl, hlp2, hb2⟩
          have hsz2 := hb2.size
          have HLP2 : Hid (Lp w2 wr.heap.size (.slice g2 n2 c2) vs2 (setsS (K j))) := hlp2
          have HJ2 : Hid _ := HJ.out.below hb2
          have hlj : ([(n, L, H)] ++ catN (fun i => setsS (K i)) j).length + (setsS (K j)).length ≤ 4194304 := by have := HLEN.out (j + 1) hlt; simp only [catN, List.length_append] at this ⊢; omega
          have hbox2 : w2.cell? ⟨w.heap.size, 2, none⟩ = some (.slice (some ⟨b', off', none⟩) m cap') := (hb2.cell (p := ⟨w.heap.size, 2, none⟩) hwr).trans hbox
          have hB2 : Below w.heap.size w w2 := hB.trans (hb2.mono hB.size)
          have e1 : w.heap.size + 1 ≤ w2.heap.size := by omega
          clear hlp2 HJ hb2
          go_wp2_with (at_builtin; refine wpList_join rfl _ _ rfl (w.heap.size + 1) wr.heap.size _ _ vs vs2 _ _ rfl rfl HJ2.out HLP2.out e1 hwr hlj ?_; intro g3 n3 c3 w3 HJ3 hb3)
          have hbox3 : w3.cell? ⟨w.heap.size, 2, none⟩ = some (.slice (some ⟨b', off', none⟩) m cap') := (hb3.cell (p := ⟨w.heap.size, 2, none⟩) (by simp)).trans hbox2
          have hB3 : Below w.heap.size w w3 := hB2.trans (hb3.mono (by omega))
          go_roundw
          case rel => exact ⟨j + 1, _, _, _, _, by omega, by go_num, rfl, (by have := HJ3.out; rw [List.append_assoc] at this; exact this), hbox3, hB3⟩
          case measure => simp [intOf]; omega
        · go_wp2_with fail
          go_ret
          obtain rfl : j = m := by omega
          exact ⟨g, gn, gc, vs, rfl, by rw [HSET.out]; exact HJ.out.mono (by omega), hB⟩
    · rw [if_neg hone] at HLEN HSET
      have hk1 : (kind == 1) = false := by simpa using hone
      clear hone
      simp only [List.nil_append] at HLEN HSET
      have r2 : ((w.alloc (.cells #[.int .i64 kind, .slice a n cap, .slice a' m cap'] 26)).alloc (.cells #[] 23)).cell? ⟨w.heap.size, 2, none⟩ = some (.slice a' m cap') := by simp [go_sem]
      go_enter Tryd.func90, Tryd.ntmps90
      go_wp2_with fail
      go_loopw [3, 4] (fun t i wr => ∃ (j : Nat) (g : Option Addr) (gn gc : Nat) (vs : List Value), j ≤ m ∧ i = .int .i64 j ∧ t = .slice g gn gc ∧ Hid (Lp wr (w.heap.size + 1) (.slice g gn gc) vs (catN (fun i => setsS (K i)) j)) ∧ wr.cell? ⟨w.heap.size, 2, none⟩ = some (.slice a' m cap') ∧ Below w.heap.size w wr) (fun _ i _ => m - (intOf i).toNat)
      case atStart => exact ⟨0, _, _, _, [], Nat.zero_le _, rfl, rfl, HL0, r2, hB0⟩
      case round =>
        obtain ⟨j, g, gn, gc, vs, hj, rfl, rfl, HJ, hbox, hB⟩ := hrel
        by_cases hlt : j < m
        · obtain rfl := (hm (by omega)).1
          have hltz : (j : Int) < (m : Int) := by omega
          obtain ⟨c1, c2, c3⟩ := HK.out j hlt
          have d1 : wr.cell? ⟨b', off' + j * 3, none⟩ = _ := (hB.cell (p := ⟨b', _, none⟩) (World.block_lt_of_cell? _ _ c1)).trans c1
          have d2 : wr.cell? ⟨b', off' + j * 3 + 1, none⟩ = _ := (hB.cell (p := ⟨b', _, none⟩) (World.block_lt_of_cell? _ _ c2)).trans c2
          have d3 : wr.cell? ⟨b', off' + j * 3 + 2, none⟩ = _ := (hB.cell (p := ⟨b', _, none⟩) (World.block_lt_of_cell? _ _ c3)).trans c3
          clear c1 c2 c3
          have hwr : w.heap.size < wr.heap.size := World.block_lt_of_cell? _ _ hbox
          go_wp2_with fail
          refine (HIH.out j hlt wr hB).mono ?_
          rintro e w2 ⟨g2, n2, c2, vs2, rfl, hlp2, hb2⟩
          have hsz2 := hb2.size
          have HLP2 : Hid (Lp w2 wr.heap.size (.slice g2 n2 c2) vs2 (setsS (K j))) := hlp2
          have HJ2 : Hid _ := HJ.out.below hb2
          have hlj : (catN (fun i => setsS (K i)) j).length + (setsS (K j)).length ≤ 4194304 := by have := HLEN.out (j + 1) hlt; simp only [catN, List.length_append] at this; omega
          have hbox2 : w2.cell? ⟨w.heap.size, 2, none⟩ = some (.slice (some ⟨b', off', none⟩) m cap') := (hb2.cell (p := ⟨w.heap.size, 2, none⟩) hwr).trans hbox
          have hB2 : Below w.heap.size w w2 := hB.trans (hb2.mono hB.size)
          have e1 : w.heap.size + 1 ≤ w2.heap.size := by omega
          clear hlp2 HJ hb2
          go_wp2_with (at_builtin; refine wpList_join rfl _ _ rfl (w.heap.size + 1) wr.heap.size _ _ vs vs2 _ _ rfl rfl HJ2.out HLP2.out e1 hwr hlj ?_; intro g3 n3 c3 w3 HJ3 hb3)
          have hbox3 : w3.cell? ⟨w.heap.size, 2, none⟩ = some (.slice (some ⟨b', off', none⟩) m cap') := (hb3.cell (p := ⟨w.heap.size, 2, none⟩) (by simp)).trans hbox2
          have hB3 : Below w.heap.size w w3 := hB2.trans (hb3.mono (by omega))
          go_roundw
          case rel => exact ⟨j + 1, _, _, _, _, by omega, by go_num, rfl, HJ3, hbox3, hB3⟩
          case measure => simp [intOf]; omega
        · go_wp2_with fail
          go_ret
          obtain rfl : j = m := by omega
          exact ⟨g, gn, gc, vs, rfl, by rw [HSET.out]; exact HJ.out.mono (by omega), hB⟩

set_option maxRecDepth 100000 in
set_option maxHeartbeats 2000000 in
theorem specRexSets_any (S : Sh) (M : Mx) (w : World) (h : In AnyB w S M) (hcnt : cnt S ≤ 1048576) : Calls Tryd.prog 37 #[vx S M] w (SpRes (setsR S) w) := by
  have H1 : Hid (∀ w1, Below w.heap.size w w1 → Calls Tryd.prog 19 #[vx S M] w1 fun e w' => e = .returned (.bool (okR S)) ∧ Below w1.heap.size w1 w') := fun w1 hb => specRexOk_any S M w1 (h.below hb) hcnt
  have H2 : Hid (∀ w1, Below w.heap.size w w1 → Calls Tryd.prog 90 #[vx S M] w1 (SpRes (setsS S) w1)) := fun w1 hb => l2Sets_any S M w1 (h.below hb) hcnt
  obtain ⟨a, n, c, a', m, c', hv⟩ := h.value
  rw [hv] at H1 H2 ⊢
  clear hv
  have hB0 : Below w.heap.size w (w.alloc (.cells #[.int .i64 S.kind, .slice a n c, .slice a' m c'] 26)) := (Below.refl _ _).alloc (Nat.le_refl _) _
  by_cases hf : okR S = true
  · rw [hf] at H1
    have HR : Hid (setsR S = setsS S) := by simp [Hid, setsR, hf]
    clear hf
    go_enter Tryd.func37, Tryd.ntmps37
    go_wp2_with fail
    refine (H1.out _ hB0).mono ?_
    rintro e w1 ⟨rfl, hb1⟩
    obtain ⟨hc1, hf1⟩ := bcell hb1
    have r0 : w1.cell? ⟨w.heap.size, 0, none⟩ = some (.int .i64 S.kind) := by rw [hc1 _ _ (by simp)]; simp [go_sem]
    have r1 : w1.cell? ⟨w.heap.size, 1, none⟩ = some (.slice a n c) := by rw [hc1 _ _ (by simp)]; simp [go_sem]
    have r2 : w1.cell? ⟨w.heap.size, 2, none⟩ = some (.slice a' m c') := by rw [hc1 _ _ (by simp)]; simp [go_sem]
    clear hc1 hf1
    have hB1 := hB0.trans (hb1.mono hB0.size)
    go_wp2_with fail
    refine (H2.out _ hB1).mono ?_
    rintro e w2 ⟨g, gn, gc, vs, rfl, hlp, hb2⟩
    have HLP : Hid _ := hlp
    clear hlp
    go_wp2_with fail
    go_ret
    exact ⟨g, gn, gc, vs, rfl, by rw [HR.out]; exact HLP.out.mono hB1.size, hB1.trans (hb2.mono hB1.size)⟩
  · have hf' : okR S = false := Bool.eq_false_iff.2 hf
    rw [hf'] at H1
    have HR : Hid (setsR S = []) := by simp [Hid, setsR, hf']
    clear hf hf' H2
    go_enter Tryd.func37, Tryd.ntmps37
    go_wp2_with fail
    refine (H1.out _ hB0).mono ?_
    rintro e w1 ⟨rfl, hb1⟩
    have hB1 := hB0.trans (hb1.mono hB0.size)
    go_wp2_with fail
    go_ret
    refine ⟨_, _, _, [], rfl, ?_, hB1.alloc hB1.size _⟩
    rw [HR.out]
    exact ⟨World.ownsRow_lit w1 #[] 0 hB1.size (by simp [maxLen]) (by simp), fun i x s hx => by simp at hx⟩

end Go.Proofs.YtbnllbhlmnkgcaaDoor
