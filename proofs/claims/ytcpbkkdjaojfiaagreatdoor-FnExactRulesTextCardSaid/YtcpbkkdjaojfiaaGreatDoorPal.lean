/- A range over a function whose body may panic, and may write into rows that it made itself: the law of the walk for it; no Go text is walked here. -/
import Derived.Test.YtcpbkkdjaojfiaaGreatDoorTm
namespace Go.Proofs.YtcpbkkdjaojfiaaGreatDoor
open Go Go.RowKit Go.Shelf
set_option linter.unusedVariables false
set_option linter.unusedSimpArgs false
attribute [local go_sem] Oper.semAt_some

/-- whatever is not of X lies as it lay; new blocks may have come -/
structure KeepsO (X : Nat → Obj → Prop) (W W' : World) : Prop where
  os : W'.os = W.os
  tape : W'.tape = W.tape
  output : W'.output = W.output
  size : W.heap.size ≤ W'.heap.size
  same : ∀ k o, W.heap[k]? = some o → ¬ X k o → W'.heap[k]? = some o

theorem KeepsO.refl (X : Nat → Obj → Prop) (W : World) : KeepsO X W W := ⟨rfl, rfl, rfl, Nat.le_refl _, fun _ _ h _ => h⟩
theorem KeepsO.trans {X : Nat → Obj → Prop} {A B C : World} (h : KeepsO X A B) (k : KeepsO X B C) : KeepsO X A C :=
  ⟨k.os.trans h.os, k.tape.trans h.tape, k.output.trans h.output, Nat.le_trans h.size k.size, fun i o hi hx => k.same i o (h.same i o hi hx) hx⟩
theorem keepsO_of_below {A B : World} (X : Nat → Obj → Prop) (h : Below A.heap.size A B) : KeepsO X A B :=
  ⟨h.os, h.tape, h.output, h.size, fun k o hk _ => (h.block k (Array.getElem?_eq_some_iff.1 hk).1).trans hk⟩
theorem KeepsO.drew {X : Nat → Obj → Prop} {A B : World} (h : KeepsO X A B) : KeepsO X A B.drew := ⟨h.os, h.tape, h.output, h.size, h.same⟩
theorem KeepsO.below {X : Nat → Obj → Prop} {A B : World} {m : Nat} (h : KeepsO X A B) (hm : m ≤ A.heap.size) (hX : ∀ k o, X k o → m ≤ k) : Below m A B :=
  ⟨h.os, h.tape, h.output, h.size, fun k hk => by
    have hlt : k < A.heap.size := Nat.lt_of_lt_of_le hk hm
    rw [Array.getElem?_eq_getElem hlt]
    exact h.same k _ (Array.getElem?_eq_getElem hlt) (fun e => by have := hX _ _ e; omega)⟩
theorem keepsO_putObj {X : Nat → Obj → Prop} (W : World) (l : Nat) (o : Obj) (hX : ∀ o', W.heap[l]? = some o' → X l o') : KeepsO X W (W.putObj l o) :=
  ⟨rfl, rfl, rfl, by simp, fun k o' hk hx => (World.putObj_heap_other (fun e => by subst e; exact hx (hX o' hk))).trans hk⟩
theorem keepsO_setCell {X : Nat → Obj → Prop} (W : World) (p : Addr) (u : Value) (hX : ∀ o', W.heap[p.block]? = some o' → X p.block o') : KeepsO X W (W.setCell p u) :=
  ⟨rfl, rfl, rfl, by simp [World.setCell], fun k o' hk hx => (Below.heap_setCell _ _ _ _ (fun e => by subst e; exact hx (hX o' hk))).trans hk⟩
theorem KeepsO.block {X : Nat → Obj → Prop} {A B : World} (h : KeepsO X A B) {k : Nat} (hk : k < A.heap.size) (hx : ∀ o, A.heap[k]? = some o → ¬ X k o) : B.heap[k]? = A.heap[k]? := by
  rw [Array.getElem?_eq_getElem hk]
  exact h.same k _ (Array.getElem?_eq_getElem hk) (hx _ (Array.getElem?_eq_getElem hk))
theorem KeepsO.cell {X : Nat → Obj → Prop} {A B : World} (h : KeepsO X A B) {p : Addr} {v : Value} (hc : A.cell? p = some v) (hx : ∀ o, A.heap[p.block]? = some o → ¬ X p.block o) : B.cell? p = some v :=
  (World.cell?_of_block (w := A) (h.block (World.block_lt_of_cell? _ _ hc) hx)).trans hc

/-- an iterator that yields xs, each round going on or panicking; it reads what lay below n₀, and boxes of type ty of its own -/
def SeqPanK {α : Type} (P : Program) (ty : TypeId) (g : Nat) (lb : Array Value) (encs : α → Array Value) (n₀ : Nat) (xs : List α) (w : World) : Prop :=
  ∀ (l : Nat) (X : Nat → Obj → Prop) (J : List α → World → Prop) (Jp : List PanicEntry → World → Prop) (W : World), Below w.heap.size w W → (∀ k o, X k o → n₀ ≤ k ∧ (k < W.heap.size ∨ ∀ cs fr, o ≠ .cells cs ty fr)) → Stays J →
    (∀ pre x W1, J pre W1 → (pre ++ [x]) <+: xs → YieldAt Fence.wide 0 P l (encs x) W1 fun e W' =>
      (e = .returned (.bool true) ∧ J (pre ++ [x]) W' ∧ KeepsO X W1 W') ∨ (∃ ch, e = .panicked ch ∧ Jp ch W')) →
    J [] W →
    Calls P g (#[.func (.yield l) #[] #[]] ++ lb) W fun e W' => ((∃ v, e = .returned v) ∧ J xs W') ∨ (∃ ch, e = .panicked ch ∧ Jp ch W')

/-- how the body of a round may be left -/
def panPostK {α : Type} (z : Nat) (X : Nat → Obj → Prop) (I : List α → World → Prop) (Ip : List PanicEntry → World → Prop) (s : List α) (W : World) : Exit → Act → World → Prop
  | .normal, _, W' => KeepsO X W W' ∧ (∀ k, z ≤ k → k < z + 2 → W'.heap[k]? = W.heap[k]?) ∧ I s W'
  | .panic ch, a, W' => KeepsO X W W' ∧ (∀ k, z ≤ k → k < z + 2 → W'.heap[k]? = W.heap[k]?) ∧ a.defers = [] ∧ Ip ch W'
  | _, _, _ => False

theorem wpAt_rangeFunc_panK {P : Program} {α : Type} {fn : FuncId} (hfn : ∃ x, P.funcs[fn]? = some x) {g : Operand} {ps : Array Tmp} {assign body : Code} {Q : Exit → Act → World → Prop} {a : Act} {w : World}
    {gf : Nat} {lb : Array Value} (hg : a.eval g = .func (.func gf) #[] lb) (eg : ∀ args w, (callFunc gf args).run P w = .ok (.enter gf args) w)
    {encs : α → Array Value} {n₀ : Nat} {xs : List α} {ty : TypeId} (hseq : SeqPanK P ty gf lb encs n₀ xs w) (hps : ∀ x, (encs x).size = ps.size) (hn : n₀ ≤ w.heap.size)
    (X : Nat → Obj → Prop) (hX : ∀ k o, X k o → n₀ ≤ k ∧ (k < w.heap.size ∨ ∀ cs fr, o ≠ .cells cs ty fr))
    (I : List α → World → Prop) (Ip : List PanicEntry → World → Prop)
    (hI : ∀ s W W', I s W → Keeps (fun k => w.heap.size ≤ k ∧ k < w.heap.size + 2) W W' → I s W')
    (h0 : I [] w)
    (hround : ∀ (l : Nat) (pre : List α) (x : α) (W : World), l = w.heap.size + 1 → I pre W → l < W.heap.size → (pre ++ [x]) <+: xs →
      assign.wpIn (Fence.wide.inRound l) 0 P (Exit.then (fun a' W1 => Below W.heap.size W W1 ∧ ∀ W2, Keeps (· = l) W1 W2 → W2.heap.size = W1.heap.size → body.wpIn (Fence.wide.inRound l) 0 P (panPostK w.heap.size X I Ip (pre ++ [x]) W2) a' W2) (fun _ _ _ => False))
        { tmps := (ps.zip (encs x)).foldl (fun t (p, v) => t.setIfInBounds p v) a.tmps, defers := [] } W)
    (hdone : ∀ (W : World), I xs W → W.heap[w.heap.size]? = some (.deferred (some [])) → Q .normal { a with defers := { target := .collected w.heap.size, args := #[] } :: a.defers } W)
    (hpan : ∀ (ch : List PanicEntry) (W : World), Ip ch W → W.heap[w.heap.size]? = some (.deferred (some [])) → Q (.panic ch) { a with defers := { target := .collected w.heap.size, args := #[] } :: a.defers } W) :
    wpAt fn P (Code.rangeFunc g ps assign body) Q a w := by
  refine wpAt_rangeFunc ?_
  obtain ⟨rec, hrec⟩ : ∃ rec : LoopState → Option Code → Loop, rec = fun st pe => { state := st, pending := pe, fn, tmps := a.tmps, params := ps, assign, body, defers := w.heap.size } := ⟨_, rfl⟩
  obtain ⟨W1, hW1⟩ : ∃ W1, (w.alloc (.deferred (some []))).alloc (.loop (rec .ready none)) = W1 := ⟨_, rfl⟩
  have hL1 : W1.heap[w.heap.size + 1]? = some (.loop (rec .ready none)) := by
    rw [← hW1]; have := World.alloc_heap_new (w.alloc (.deferred (some []))) (.loop (rec .ready none)); rwa [World.size_alloc] at this
  have hK1 : W1.heap[w.heap.size]? = some (.deferred (some [])) := by
    rw [← hW1]; exact (Below.heap_alloc _ _ _ (by simp)).trans (World.alloc_heap_new w _)
  have hb1 : Below w.heap.size w W1 := by rw [← hW1]; exact ((Below.refl _ w).alloc (Nat.le_refl _) _).alloc (by simp) _
  have hs1 : W1.heap.size = w.heap.size + 2 := by rw [← hW1]; simp
  have hI1 : I [] W1 := hI _ _ _ h0 (keeps_of_below _ hb1)
  refine ⟨w.heap.size + 1, [{ target := .collected w.heap.size, args := #[] }], W1, { target := .fn (.func gf) lb, args := #[.func (.yield (w.heap.size + 1)) #[] #[]] }, W1, gf,
    #[.func (.yield (w.heap.size + 1)) #[] #[]] ++ lb, W1, ?_, ?_, ?_, ?_⟩
  · rw [← hW1, hrec]; exact run_enterLoop_outer _ _ _ _ _
  · simp only [resolve, hg]
    simp [go_sem]
  · simp [invoke, go_sem, eg]
  · refine (hseq (w.heap.size + 1) (fun k o => X k o ∨ k = w.heap.size + 1)
      (fun pre W => I pre W ∧ W.heap[w.heap.size + 1]? = some (.loop (rec .ready none)) ∧ W.heap[w.heap.size]? = some (.deferred (some [])))
      (fun ch W => Ip ch W ∧ W.heap[w.heap.size]? = some (.deferred (some [])))
      W1 hb1 (fun k o hk => ?_) ?_ ?_ ⟨hI1, hL1, hK1⟩).mono ?_
    · rcases hk with hk | hk
      · exact ⟨(hX k o hk).1, (hX k o hk).2.imp (fun h => by omega) id⟩
      · exact ⟨by omega, .inl (by omega)⟩
    · rintro s A B ⟨hi, hl, hk⟩ hb
      have h1 := (Array.getElem?_eq_some_iff.1 hl).1
      exact ⟨hI _ _ _ hi (keeps_of_below _ hb), (hb.block _ h1).trans hl, (hb.block _ (by omega)).trans hk⟩
    · rintro pre x W ⟨hi, hl, hk⟩ hpre
      have hlt : w.heap.size + 1 < W.heap.size := (Array.getElem?_eq_some_iff.1 hl).1
      have hy := run_yield (P := P) (args := encs x) hl (by rw [hrec]; exact hps x)
      rw [hrec] at hy
      refine ⟨fn, _, assign, body, hy, roundIn_of_wpInP hfn (wpIn_mono (hround _ pre x W rfl hi hlt hpre) ?_)⟩
      rintro e a' W2 hq
      cases e with
      | normal =>
        obtain ⟨hbW, hbody⟩ := hq
        have hl2 : W2.heap[w.heap.size + 1]? = some (.loop (rec .ready none)) := (hbW.block _ hlt).trans hl
        have hk2 : W2.heap[w.heap.size]? = some (.deferred (some [])) := (hbW.block _ (by omega)).trans hk
        refine ⟨_, run_beginRound hl2 (by rw [hrec]), ?_⟩
        have hlt2 : w.heap.size + 1 < W2.heap.size := (Array.getElem?_eq_some_iff.1 hl2).1
        have hl3 : (W2.putObj (w.heap.size + 1) (.loop { rec .ready none with state := .busy })).heap[w.heap.size + 1]? = some (.loop { rec .ready none with state := .busy }) := World.putObj_heap_same hlt2
        have hk3 : (W2.putObj (w.heap.size + 1) (.loop { rec .ready none with state := .busy })).heap[w.heap.size]? = some (.deferred (some [])) := (World.putObj_heap_other (by omega)).trans hk2
        refine wpIn_mono (hbody _ (keeps_putObj W2 _ _) (by simp)) ?_
        rintro e a3 W4 hp
        have hK12 : KeepsO (fun k o => X k o ∨ k = w.heap.size + 1) W (W2.putObj (w.heap.size + 1) (.loop { rec .ready none with state := .busy })) :=
          (keepsO_of_below _ hbW).trans (keepsO_putObj W2 _ _ (fun _ _ => .inr rfl))
        cases e with
        | normal =>
          obtain ⟨hkp, htwo, hi4⟩ := hp
          have hl4 : W4.heap[w.heap.size + 1]? = some (.loop { rec .ready none with state := .busy }) :=
            (htwo _ (by omega) (by omega)).trans hl3
          have hk4 : W4.heap[w.heap.size]? = some (.deferred (some [])) := (htwo _ (by omega) (by omega)).trans hk3
          have hend := run_endRound (P := P) none hl4
          have hlt4 : w.heap.size + 1 < W4.heap.size := (Array.getElem?_eq_some_iff.1 hl4).1
          refine ⟨_, _, hend, .inl ⟨rfl, ⟨?_, ?_, ?_⟩, ?_⟩⟩
          · exact hI _ _ _ hi4 ((keeps_putObj W4 _ _).mono (fun k _ e => by omega))
          · rw [World.putObj_heap_same hlt4, hrec]; rfl
          · exact (World.putObj_heap_other (by omega)).trans hk4
          · exact (hK12.trans ⟨hkp.os, hkp.tape, hkp.output, hkp.size, fun k o h hx => hkp.same k o h (fun e => hx (.inl e))⟩).trans (keepsO_putObj W4 _ _ (fun _ _ => .inr rfl))
        | panic ch =>
          obtain ⟨hkp, htwo, hd, hi4⟩ := hp
          have hk4 : W4.heap[w.heap.size]? = some (.deferred (some [])) := (htwo _ (by omega) (by omega)).trans hk3
          exact ⟨hd, .inr ⟨ch, rfl, hi4, hk4⟩⟩
        | ret => exact hp.elim
        | exit id => exact hp.elim
        | goto t => exact hp.elim
        | outgrown => exact hp.elim
      | ret => exact hq.elim
      | exit id => exact hq.elim
      | goto t => exact hq.elim
      | panic ch => exact hq.elim
      | outgrown => exact hq.elim
    · rintro e W2 (⟨⟨v, rfl⟩, hi, hl, hk⟩ | ⟨ch, rfl, hi, hk⟩)
      · exact ⟨none, _, by have := run_endLoop (P := P) hl (by rw [hrec]; simp); rw [hrec] at this; exact this, hdone _ (hI _ _ _ hi ((keeps_putObj W2 _ _).mono (fun k _ e => by omega))) ((World.putObj_heap_other (by omega)).trans hk)⟩
      · exact hpan ch W2 hi hk

/-- what one call of yield comes to -/
abbrev YResK (X : Nat → Obj → Prop) (J : List Part → World → Prop) (Jp : List PanicEntry → World → Prop) (s : List Part) (W : World) : Ending → World → Prop :=
  fun e W' => (e = .returned (.bool true) ∧ J s W' ∧ KeepsO X W W') ∨ (∃ ch, e = .panicked ch ∧ Jp ch W')

set_option maxRecDepth 100000 in
set_option maxHeartbeats 2000000 in
theorem yieldParts_inK (l n₀ B : Nat) (X : Nat → Obj → Prop) (J : List Part → World → Prop) (Jp : List PanicEntry → World → Prop) (xs : List Part) (hX : ∀ k o, X k o → n₀ ≤ k ∧ (k < B ∨ ∀ cs fr, o ≠ .cells cs 40 fr)) (hJ : Stays J)
    (hY : ∀ pre x W1, J pre W1 → (pre ++ [x]) <+: xs → YieldAt Fence.wide 0 Tryz.prog l (encP x) W1 (YResK X J Jp (pre ++ [x]) W1)) (S : Sh) :
    ∀ (d : Nat) (M : Mx) (pre : List Part) (W : World), (pre ++ partsL S d M) <+: xs → In (· < n₀) W S M → J pre W → B ≤ W.heap.size → d + cnt S ≤ 1048576 →
      CallsIn Fence.wide 0 Tryz.prog 62 #[vx S M, .int .i64 d, .func (.yield l) #[] #[]] W (YResK X J Jp (pre ++ partsL S d M) W) := by
  induction S using Sh.ind with
  | h kind n L H m K ih =>
    intro d M pre W hxs h hJ0 hBW hcnt
    obtain ⟨sv, kv, M, rfl⟩ := Mx.cases M
    · skip
      have hin := h
      obtain ⟨a, b, off, cap, a', b', off', cap', e1, hn, hs, hl, e2, hm, hl', hk⟩ := h
      obtain rfl : sv = _ := e1
      obtain rfl : kv = _ := e2
      simp only [Mx.mk_kid] at hk
      simp only [partsL_mk] at hxs ⊢
      have hpre1 : (pre ++ [(d, Sh.mk kind n L H m K, Mx.mk (.slice a n cap) (.slice a' m cap') M)]) <+: xs := by
        obtain ⟨t, ht⟩ := hxs
        exact ⟨catN (fun i => partsL (K i) (d + 1) (M i)) m ++ t, by rw [← ht]; simp [List.append_assoc]⟩
      have hb0 : Below W.heap.size W (W.alloc (.cells #[.int .i64 kind, .slice a n cap, .slice a' m cap'] 40)) := (Below.refl _ _).alloc (Nat.le_refl _) _
      obtain ⟨fn, tmps, assign, body, hy, hR⟩ := hY pre (d, Sh.mk kind n L H m K, Mx.mk (.slice a n cap) (.slice a' m cap') M) _ (hJ _ _ _ hJ0 hb0) hpre1
      simp only [encP, vx, Sh.mk_kind, Mx.mk_sv, Mx.mk_kv] at hy
      simp only [vx, Sh.mk_kind, Mx.mk_sv, Mx.mk_kv]
      have HR : Hid (RoundIn Fence.wide 0 Tryz.prog l fn tmps assign body (W.alloc (.cells #[.int .i64 kind, .slice a n cap, .slice a' m cap'] 40)) (YResK X J Jp (pre ++ [(d, Sh.mk kind n L H m K, Mx.mk (.slice a n cap) (.slice a' m cap') M)]) (W.alloc (.cells #[.int .i64 kind, .slice a n cap, .slice a' m cap'] 40)))) := hR
      clear hR hn hs
      refine callsIn_of_wp Tryz.func62 rfl trivial ?_
      simp only [Tryz.ntmps62, List.size_toArray, List.length_cons, List.length_nil, Nat.reduceAdd, Nat.reduceSub, Array.replicate_succ, Array.replicate_zero, List.push_toArray, List.append_toArray, List.nil_append, List.cons_append]
      gi_wp2_with fail
      refine ⟨rfl, HR.out.mono ?_⟩
      clear hy HR
      rintro e W2 (⟨rfl, hJ2, hK2⟩ | ⟨ch, rfl, hp⟩)
      · have hbox : W2.cell? ⟨W.heap.size, 2, none⟩ = some (.slice a' m cap') := hK2.cell (by simp [go_sem]) (fun o ho e => by
          rw [World.alloc_heap_new] at ho
          cases ho
          rcases (hX _ _ e).2 with h | h
          · have h' : W.heap.size < B := h
            omega
          · exact h _ _ rfl)
        have hKW2 : KeepsO X W W2 := (keepsO_of_below X hb0).trans hK2
        have HIN : Hid (In (· < n₀) W (Sh.mk kind n L H m K) (Mx.mk (.slice a n cap) (.slice a' m cap') M)) := hin
        have HK : Hid (∀ i, i < m → Kid W b' (off' + i * 3) (K i) (M i) ∧ In (fun x => x < n₀) W (K i) (M i)) := hk
        have HIH : Hid _ := ih
        have HX : Hid (∀ k o, X k o → n₀ ≤ k) := fun k o h => (hX k o h).1
        have HXS : Hid _ := hxs
        simp only [cnt_mk] at hcnt
        clear hin hk ih hX hxs hJ0 hpre1
        gi_wp2_with fail
        gi_loopw [17] (fun i wr => ∃ k : Nat, k ≤ m ∧ i = .int .i64 k ∧ J (pre ++ (d, Sh.mk kind n L H m K, Mx.mk (.slice a n cap) (.slice a' m cap') M) :: catN (fun i => partsL (K i) (d + 1) (M i)) k) wr ∧ KeepsO X W wr) (fun i _ => m - (intOf i).toNat)
        case atStart => exact ⟨0, Nat.zero_le _, rfl, by simpa [catN] using hJ2, hKW2⟩
        case round =>
          obtain ⟨k, hkm, rfl, hJk, hKk⟩ := hrel
          by_cases hlt : k < m
          · obtain ⟨rfl, hbn⟩ := hm (by omega)
            have hltz : (k : Int) < (m : Int) := by omega
            obtain ⟨⟨c1, c2, c3⟩, hink⟩ := HK.out k hlt
            obtain ⟨sa, sn, sc, ka, km, kc, es, ek⟩ := hink.slices
            have hnx : ∀ o, W.heap[b']? = some o → ¬ X b' o := fun o _ e => by have := HX.out _ _ e; omega
            have d1 : wr.cell? ⟨b', off' + k * 3, none⟩ = some (.int .i64 (K k).kind) := hKk.cell c1 hnx
            have d2 : wr.cell? ⟨b', off' + k * 3 + 1, none⟩ = some (.slice sa sn sc) := by rw [← es]; exact hKk.cell c2 hnx
            have d3 : wr.cell? ⟨b', off' + k * 3 + 2, none⟩ = some (.slice ka km kc) := by rw [← ek]; exact hKk.cell c3 hnx
            have hbk : Below wr.heap.size wr (wr.alloc (.cells #[.int .i64 (K k).kind, .slice sa sn sc, .slice ka km kc] 40)) := (Below.refl _ _).alloc (Nat.le_refl _) _
            have hcall := HIH.out k hlt (d + 1) (M k) (pre ++ (d, Sh.mk kind n L H m K, Mx.mk (.slice a n cap) (.slice (some ⟨b', off', none⟩) m cap') M) :: catN (fun i => partsL (K i) (d + 1) (M i)) k) (wr.alloc (.cells #[.int .i64 (K k).kind, .slice sa sn sc, .slice ka km kc] 40))
              (by
                refine List.IsPrefix.trans ?_ HXS.out
                have h1 : catN (fun i => partsL (K i) (d + 1) (M i)) (k + 1) <+: catN (fun i => partsL (K i) (d + 1) (M i)) m := catN_pre _ hlt
                simp only [catN] at h1
                rw [List.append_assoc, List.cons_append]
                exact (List.prefix_append_right_inj _).2 (List.cons_prefix_cons.2 ⟨rfl, h1⟩))
              ((hink.keep (fun k hk1 hk2 => hKk.block hk2 (fun o _ e => by have := HX.out _ _ e; omega))).below hbk) (hJ _ _ _ hJk hbk) (by have := hKk.size; simp; omega) (by have := sumN_at (f := fun i => cnt (K i)) hlt; omega)
            rw [vx, es, ek, show ((d + 1 : Nat) : Int) = (d : Int) + 1 from by omega] at hcall
            have HC : Hid (CallsIn Fence.wide 0 Tryz.prog 62 _ _ _) := hcall
            clear c1 c2 c3 es ek hcall hink
            gi_wp2_with fail
            refine ⟨trivial, rfl, HC.out.mono ?_⟩
            clear HC
            rintro e W3 (⟨rfl, hJ3, hK3⟩ | ⟨ch, rfl, hp⟩)
            · gi_wp2_with fail
              go_roundw
              case rel => exact ⟨k + 1, by omega, by go_num, by simpa [catN, List.append_assoc] using hJ3, hKk.trans ((keepsO_of_below X hbk).trans hK3)⟩
              case measure => simp [intOf]; omega
            · exact ⟨rfl, .inr ⟨ch, rfl, hp⟩⟩
          · gi_wp2_with fail
            go_ret
            obtain rfl : k = m := by omega
            exact .inl ⟨rfl, hJk, hKk⟩
      · exact ⟨rfl, .inr ⟨ch, rfl, hp⟩⟩

set_option maxRecDepth 100000 in
set_option maxHeartbeats 1000000 in
/-- the parts of a Rex are yielded, one behind the other -/
theorem parts_seqK (S : Sh) (M : Mx) (n₀ Bt : Nat) (w : World) (hBt : Bt < w.heap.size) (hn₀ : n₀ ≤ w.heap.size) (hc : Kid w Bt 0 S M) (hT : In (· < n₀) w S M) (hcnt : cnt S ≤ 1048576) :
    SeqPanK Tryz.prog 40 61 #[.pointer (some ⟨Bt, 0, none⟩)] encP n₀ (partsL S 0 M) w := by
  intro l X J Jp W hW hX hJ hY h0
  have hT' : In (· < n₀) W S M := hT.below hW
  obtain ⟨sa, sn, sc, ka, km, kc, es, ek⟩ := hT.slices
  obtain ⟨k1, k2, k3⟩ := hc
  rw [es] at k2
  rw [ek] at k3
  have c1 := (hW.cell (p := ⟨Bt, 0, none⟩) hBt).trans k1
  have c2 := (hW.cell (p := ⟨Bt, 0 + 1, none⟩) hBt).trans k2
  have c3 := (hW.cell (p := ⟨Bt, 0 + 2, none⟩) hBt).trans k3
  simp only [Nat.zero_add] at c2 c3
  have hp := yieldParts_inK l n₀ W.heap.size X J Jp (partsL S 0 M) hX hJ hY S 0 M [] W (by simp) hT' h0 (Nat.le_refl _) (by omega)
  rw [vx, es, ek] at hp
  have HP : Hid (CallsIn Fence.wide 0 Tryz.prog 62 #[.agg #[.int .i64 S.kind, .slice sa sn sc, .slice ka km kc], .int .i64 0, .func (.yield l) #[] #[]] W (YResK X J Jp (partsL S 0 M) W)) := by rw [Hid]; simpa using hp
  clear hp es ek k1 k2 k3 hY
  refine (callsIn_wide (n := 0)).1 ?_
  refine callsIn_of_wp Tryz.func61 rfl trivial ?_
  simp only [Tryz.ntmps61, List.size_toArray, List.length_cons, List.length_nil, Nat.reduceAdd, Nat.reduceSub, Array.replicate_succ, Array.replicate_zero, List.push_toArray, List.append_toArray, List.nil_append, List.cons_append]
  gi_wp2_with fail
  refine ⟨trivial, rfl, HP.out.mono ?_⟩
  clear HP
  rintro e W3 (⟨rfl, hJ3, hK3⟩ | ⟨ch, rfl, hp⟩)
  · gi_wp2_with fail
    go_end0
    exact .inl ⟨⟨_, rfl⟩, hJ3⟩
  · exact ⟨rfl, .inr ⟨ch, rfl, hp⟩⟩

end Go.Proofs.YtcpbkkdjaojfiaaGreatDoor

