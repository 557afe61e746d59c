/- lists of one's own that grow: numbers and texts -/
import Derived.Test.YtbfpnndcbaffoaaDoorKb
import Derived.Laws.OwnMore
import Derived.Maps.AppendAt
import Derived.RangeFuncBox
import Derived.Laws.IdiomStrings
namespace Go.Proofs.YtbfpnndcbaffoaaDoor
open Go.RowKit Go.Shelf
set_option linter.unusedVariables false
set_option linter.unusedSimpArgs false

theorem kInfo3 : (Tryd.prog.info? 3).map (fun i => (i.zero, i.size, i.bytes)) = some (some (.int .i64 0), 1, 8) := by kernel_rfl
theorem kInfoS : (Tryd.prog.info? 9).map (fun i => (i.zero, i.size, i.bytes)) = some (some (.string ⟨#[]⟩), 1, 16) := by kernel_rfl
theorem own_blk {W W' : World} {base e size g c n : Nat} {m : Nat} {xs : List Value} (h : W.ownsRow base e size (.slice (some ⟨g, 0, none⟩) m c) n xs) (hb : W'.heap[g]? = W.heap[g]?) : W'.ownsRow base e size (.slice (some ⟨g, 0, none⟩) m c) n xs := by
  refine ⟨h.1, ?_⟩
  rcases h.2 with ⟨e1, _⟩ | ⟨g', cap, cur, e1, e2, e3, e4⟩
  · cases e1
  · simp only [Value.slice.injEq, Option.some.injEq, Addr.mk.injEq, and_true] at e1
    obtain ⟨rfl, rfl, rfl⟩ := e1
    exact .inr ⟨g, _, cur, rfl, e2, hb.trans e3, e4⟩
theorem own_lt {W : World} {base e size g c n m : Nat} {xs : List Value} (h : W.ownsRow base e size (.slice (some ⟨g, 0, none⟩) m c) n xs) : base ≤ g ∧ g < W.heap.size ∧ ∃ cur, W.heap[g]? = some (.cells cur e (0, 0)) := by
  rcases h.2 with ⟨e1, _⟩ | ⟨g', cap, cur, e1, e2, e3, e4⟩
  · cases e1
  · simp only [Value.slice.injEq, Option.some.injEq, Addr.mk.injEq, and_true] at e1
    obtain ⟨rfl, rfl, rfl⟩ := e1
    exact ⟨e2, (Array.getElem?_eq_some_iff.1 e3).1, cur, e3⟩
theorem own_below {W W' : World} {base e size g c n m : Nat} {xs : List Value} (h : W.ownsRow base e size (.slice (some ⟨g, 0, none⟩) m c) n xs) (hb : Below W.heap.size W W') : W'.ownsRow base e size (.slice (some ⟨g, 0, none⟩) m c) n xs := own_blk h (hb.block g (own_lt h).2.1)

/-- the three lists lie there -/
structure Ents (W : World) (base : Nat) (L : List Ent) (m ga ca gb cb gw cw : Nat) : Prop where
  len : L.length = m
  a : W.ownsRow base 3 1 (.slice (some ⟨ga, 0, none⟩) m ca) m (L.map (fun e => .int .i64 e.1))
  b : W.ownsRow base 3 1 (.slice (some ⟨gb, 0, none⟩) m cb) m (L.map (fun e => .int .i64 e.2.1))
  w : W.ownsRow base 9 1 (.slice (some ⟨gw, 0, none⟩) m cw) m (L.map (fun e => .string e.2.2))
  ab : ga ≠ gb
theorem Ents.below {W W' : World} {base : Nat} {L : List Ent} {m ga ca gb cb gw cw : Nat} (h : Ents W base L m ga ca gb cb gw cw) (hb : Below W.heap.size W W') : Ents W' base L m ga ca gb cb gw cw :=
  ⟨h.len, own_below h.a hb, own_below h.b hb, own_below h.w hb, h.ab⟩
theorem Ents.at {W : World} {base : Nat} {L : List Ent} {m ga ca gb cb gw cw : Nat} (h : Ents W base L m ga ca gb cb gw cw) {i : Nat} {e : Ent} (he : L[i]? = some e) :
    W.cell? ⟨ga, i, none⟩ = some (.int .i64 e.1) ∧ W.cell? ⟨gb, i, none⟩ = some (.int .i64 e.2.1) ∧ W.cell? ⟨gw, i, none⟩ = some (.string e.2.2) := by
  have hi : i < m := by
    have := (List.getElem?_eq_some_iff.1 he).1
    rw [h.len] at this
    exact this
  refine ⟨?_, ?_, ?_⟩
  · rw [h.a.cellAt i (by omega), List.getElem?_map, he]; rfl
  · rw [h.b.cellAt i (by omega), List.getElem?_map, he]; rfl
  · rw [h.w.cellAt i (by omega), List.getElem?_map, he]; rfl

theorem kNe : (9 : Nat) ≠ 3 := by decide
theorem Ents.wa {W : World} {base : Nat} {L : List Ent} {m ga ca gb cb gw cw : Nat} (h : Ents W base L m ga ca gb cb gw cw) : gw ≠ ga ∧ gw ≠ gb := by
  obtain ⟨_, _, c1, e1⟩ := own_lt h.a
  obtain ⟨_, _, c2, e2⟩ := own_lt h.b
  obtain ⟨_, _, c3, e3⟩ := own_lt h.w
  refine ⟨fun e => ?_, fun e => ?_⟩
  · rw [e, e1] at e3
    simp only [Option.some.injEq, Obj.cells.injEq] at e3
    exact kNe e3.2.1.symm
  · rw [e, e2] at e3
    simp only [Option.some.injEq, Obj.cells.injEq] at e3
    exact kNe e3.2.1.symm

theorem any_take_succ {L : List Ent} {j : Nat} {q : Ent} (h : L[j]? = some q) (f : Ent → Bool) : (L.take (j + 1)).any f = ((L.take j).any f || f q) := by
  rw [List.take_add_one, List.any_append, h]
  simp

/-- a text put behind the others, as one step of a region that draws -/
theorem step_str {ops : Array Oper} {o : Oper} {a : Act} {w : World} {K : Act → World → Prop} {Q : Exit → Act → World → Prop} {E : Prop}
    (hg : o.guard = none) (s x : Operand) (hop : o.op = Op.call { callee := Callee.builtin Builtin.append, args := #[s, x], argTypes := #[61, 61] })
    (base g q c : Nat) (xs : List Value) (hs : a.eval s = .slice (some ⟨g, 0, none⟩) q c) (hown : w.ownsRow base 9 1 (.slice (some ⟨g, 0, none⟩) q c) q xs)
    (b : Nat) (hx : a.eval x = .slice (some ⟨b, 0, none⟩) 1 1) (u : ByteArray) (c0 : w.cell? ⟨b, 0, none⟩ = some (.string u))
    (hq : q ≤ 4194304) (hbase : base ≤ w.heap.size)
    (hK : ∀ g' c' w', w'.ownsRow base 9 1 (.slice (some ⟨g', 0, none⟩) (q + 1) c') (q + 1) (xs ++ [.string u]) → w.grownBy w' (some g) → (g' = g ∨ g' = w.heap.size) →
      K (a.put o.dst (.slice (some ⟨g', 0, none⟩) (q + 1) c')) w') :
    if Region.wanted o (yielded ops a.tmps) = true then Oper.wp Tryd.prog o a w K Q else E := by
  have hw : Region.wanted o (yielded ops a.tmps) = true := by simp [Region.wanted, hg]
  rw [if_pos hw]
  obtain ⟨i0, hi, hz0, hz1, hz2⟩ := info_parts kInfoS
  obtain ⟨v', w', hrun, r1, r2, r3, r4⟩ := run_append_own_at (P := Tryd.prog) w base 61 o.type 9 i0 _ 1 16 Tryd.underlying61 hi hz0 hz1 hz2 (by simp [Value.cells]) (by omega) (.slice (some ⟨g, 0, none⟩) q c) q xs hown ⟨b, 0, none⟩ 1 1 [.string u] rfl
    (fun j v hj => by
      match j, hj with
      | 0, hj => simp at hj; subst hj; simpa [Addr.add] using c0
      | n + 1, hj => simp at hj) (by simp [Value.oneCell']) (by unfold maxLen; omega) (by omega) hbase
  have hform : ∃ g' c', v' = .slice (some ⟨g', 0, none⟩) (q + 1) c' := by
    rcases r1.2 with ⟨_, h⟩ | ⟨g', cap, cur, e, _⟩
    · omega
    · exact ⟨g', cap, e⟩
  obtain ⟨g', c', rfl⟩ := hform
  unfold Oper.wp
  simp [execOp, hop, resolve, invoke, builtin, hs, hx, hrun, Result.andThen]
  refine hK g' c' w' r1 r2 ?_
  rcases r4 with h | h
  · exact .inl (Option.some.inj h)
  · exact .inr (Option.some.inj h)

theorem own_ne {W : World} {b1 e1 s1 g1 c1 n1 m1 b2 e2 s2 g2 c2 n2 m2 : Nat} {x1 x2 : List Value} (h1 : W.ownsRow b1 e1 s1 (.slice (some ⟨g1, 0, none⟩) m1 c1) n1 x1) (h2 : W.ownsRow b2 e2 s2 (.slice (some ⟨g2, 0, none⟩) m2 c2) n2 x2) (h : e1 ≠ e2) : g1 ≠ g2 := by
  obtain ⟨_, _, c1, k1⟩ := own_lt h1
  obtain ⟨_, _, c2, k2⟩ := own_lt h2
  intro e
  rw [← e, k1] at k2
  simp only [Option.some.injEq, Obj.cells.injEq] at k2
  exact h k2.2.1
theorem conv_one (B : Nat) (hB : B < 256) (V : World) (g : Nat) (h : V.cell? ⟨g, 0, none⟩ = some (.int .u8 (B : Int))) : (convert 65 9 (.slice (some ⟨g, 0, none⟩) 1 1)).run Tryd.prog V = .ok (.string ⟨#[UInt8.ofNat B]⟩) V := by
  have := run_convert_bytes_back (P := Tryd.prog) V 65 9 5 ⟨g, 0, none⟩ 1 [UInt8.ofNat B] Tryd.underlying65 Tryd.underlying5 Tryd.underlying9 (fun j hj => by
    match j, hj with
    | 0, _ =>
      have e : (UInt8.ofNat B).toNat = B := by simp; omega
      simp only [Addr.add, Nat.add_zero, List.getElem_cons_zero, e]
      exact h)
  exact this

/-- what is told of two -/
def TwoRes (P : Bool → ByteArray → Prop) (w : World) (e : Ending) (w' : World) : Prop := ∃ (b : Bool) (x : ByteArray), e = .returned (.tuple #[.bool b, .string x]) ∧ P b x ∧ Below w.heap.size w w'
theorem TwoRes.mk' {P : Bool → ByteArray → Prop} {w w' : World} {b : Bool} {x : ByteArray} (h : P b x) (hb : Below w.heap.size w w') : TwoRes P w (.returned (.tuple #[.bool b, .string x])) w' := ⟨b, x, rfl, h, hb⟩

theorem Ents.pushA {W w5 : World} {base : Nat} {L : List Ent} {m ga ca gb cb gw cw ga' ca' : Nat} (h : Ents W base L m ga ca gb cb gw cw) (hb : base ≤ W.heap.size) {o : Obj} {X : Int}
    (hown : w5.ownsRow base 3 1 (.slice (some ⟨ga', 0, none⟩) (m + 1) ca') (m + 1) (L.map (fun e => .int .i64 e.1) ++ [.int .i64 X])) (hgr : (W.alloc o).grownBy w5 (Value.slice (some ⟨ga, 0, none⟩) m ca).ownBlock)
    (hat : (Value.slice (some ⟨ga', 0, none⟩) (m + 1) ca').ownBlock = (Value.slice (some ⟨ga, 0, none⟩) m ca).ownBlock ∨ (Value.slice (some ⟨ga', 0, none⟩) (m + 1) ca').ownBlock = some (W.alloc o).heap.size) :
    w5.ownsRow base 3 1 (.slice (some ⟨gb, 0, none⟩) m cb) m (L.map (fun e => .int .i64 e.2.1)) ∧ w5.ownsRow base 9 1 (.slice (some ⟨gw, 0, none⟩) m cw) m (L.map (fun e => .string e.2.2)) ∧ W.heap.size + 1 ≤ w5.heap.size ∧ ga' ≠ gb ∧ Below base W w5 := by
  have HLA := own_lt h.a
  have HLB := own_lt h.b
  have HLW := own_lt h.w
  have HNE := h.wa
  have hab := h.ab
  have hs := hgr.size
  simp only [World.size_alloc, Value.ownBlock] at hs hgr hat
  have n1 : some gb ≠ some ga := fun e => by have := Option.some.inj e; omega
  have n2 : some gw ≠ some ga := fun e => by have := Option.some.inj e; omega
  refine ⟨own_blk (h.b.alloc o) (hgr.block gb (by have := HLB.2.1; rw [World.size_alloc]; omega) n1), own_blk (h.w.alloc o) (hgr.block gw (by have := HLW.2.1; rw [World.size_alloc]; omega) n2), hs, ?_, ?_⟩
  · have := HLB.2.1
    rcases hat with e | e
    · have := Option.some.inj e; omega
    · have := Option.some.inj e; omega
  · exact ((Below.refl _ _).alloc hb o).grown hgr (by rw [World.size_alloc]; omega) (fun j e => by cases e; exact HLA.1)
theorem pushB {w5 w6 : World} {base : Nat} {xs ys zs : List Value} {m ga' ca' gb cb gw cw gb' cb' : Nat} (ha : w5.ownsRow base 3 1 (.slice (some ⟨ga', 0, none⟩) (m + 1) ca') (m + 1) xs) (hbb : w5.ownsRow base 3 1 (.slice (some ⟨gb, 0, none⟩) m cb) m ys)
    (hw : w5.ownsRow base 9 1 (.slice (some ⟨gw, 0, none⟩) m cw) m zs) (hne : ga' ≠ gb) (hb : base ≤ w5.heap.size) {o : Obj} {Y : Int}
    (hown : w6.ownsRow base 3 1 (.slice (some ⟨gb', 0, none⟩) (m + 1) cb') (m + 1) (ys ++ [.int .i64 Y])) (hgr : (w5.alloc o).grownBy w6 (Value.slice (some ⟨gb, 0, none⟩) m cb).ownBlock)
    (hat : (Value.slice (some ⟨gb', 0, none⟩) (m + 1) cb').ownBlock = (Value.slice (some ⟨gb, 0, none⟩) m cb).ownBlock ∨ (Value.slice (some ⟨gb', 0, none⟩) (m + 1) cb').ownBlock = some (w5.alloc o).heap.size) :
    w6.ownsRow base 3 1 (.slice (some ⟨ga', 0, none⟩) (m + 1) ca') (m + 1) xs ∧ w6.ownsRow base 9 1 (.slice (some ⟨gw, 0, none⟩) m cw) m zs ∧ w5.heap.size + 1 ≤ w6.heap.size ∧ ga' ≠ gb' ∧ Below base w5 w6 := by
  have HLA := own_lt ha
  have HLB := own_lt hbb
  have HLW := own_lt hw
  have hn := own_ne hw hbb kNe
  have hs := hgr.size
  simp only [World.size_alloc, Value.ownBlock] at hs hgr hat
  have n1 : some ga' ≠ some gb := fun e => hne (Option.some.inj e)
  have n2 : some gw ≠ some gb := fun e => hn (Option.some.inj e)
  refine ⟨own_blk (ha.alloc o) (hgr.block ga' (by have := HLA.2.1; rw [World.size_alloc]; omega) n1), own_blk (hw.alloc o) (hgr.block gw (by have := HLW.2.1; rw [World.size_alloc]; omega) n2), hs, ?_, ?_⟩
  · have := HLA.2.1
    rcases hat with e | e
    · have := Option.some.inj e; omega
    · have := Option.some.inj e; omega
  · exact ((Below.refl _ _).alloc hb o).grown hgr (by rw [World.size_alloc]; omega) (fun j e => by cases e; exact HLB.1)
theorem pushW {w6 V w7 : World} {base : Nat} {L : List Ent} {m ga' ca' gb' cb' gw cw gw' cw' : Nat} {x y : Int} {u : ByteArray} (hl : L.length = m) (ha : w6.ownsRow base 3 1 (.slice (some ⟨ga', 0, none⟩) (m + 1) ca') (m + 1) (L.map (fun e => .int .i64 e.1) ++ [.int .i64 x]))
    (hb : w6.ownsRow base 3 1 (.slice (some ⟨gb', 0, none⟩) (m + 1) cb') (m + 1) (L.map (fun e => .int .i64 e.2.1) ++ [.int .i64 y])) (hw : w6.ownsRow base 9 1 (.slice (some ⟨gw, 0, none⟩) m cw) m (L.map (fun e => .string e.2.2))) (hne : ga' ≠ gb') (hs : base ≤ w6.heap.size)
    (hV : Below w6.heap.size w6 V) (hown : w7.ownsRow base 9 1 (.slice (some ⟨gw', 0, none⟩) (m + 1) cw') (m + 1) (L.map (fun e => .string e.2.2) ++ [.string u])) (hgr : V.grownBy w7 (some gw)) :
    Ents w7 base (L ++ [(x, y, u)]) (m + 1) ga' ca' gb' cb' gw' cw' ∧ Below base w6 w7 := by
  have HLA := own_lt ha
  have HLB := own_lt hb
  have HLW := own_lt hw
  have hn1 := own_ne hw ha kNe
  have hn2 := own_ne hw hb kNe
  have hz := hV.size
  have h1 := own_below ha hV
  have h2 := own_below hb hV
  refine ⟨⟨by simp [hl], ?_, ?_, ?_, hne⟩, (hV.mono hs).grown hgr (by omega) (fun j e => by cases e; exact HLW.1)⟩
  · rw [List.map_append]
    exact own_blk h1 (hgr.block ga' (by omega) (fun e => hn1 (Option.some.inj e).symm))
  · rw [List.map_append]
    exact own_blk h2 (hgr.block gb' (by omega) (fun e => hn2 (Option.some.inj e).symm))
  · rw [List.map_append]
    exact hown
end Go.Proofs.YtbfpnndcbaffoaaDoor

