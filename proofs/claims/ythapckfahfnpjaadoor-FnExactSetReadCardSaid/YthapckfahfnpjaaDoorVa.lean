/- a text that grows byte by byte in memory of one's own; the walks of addSpanText, addSetText and of impl's SetText -/
import Derived.Test.YthapckfahfnpjaaDoorVt
import Derived.Test.YthapckfahfnpjaaDoorShA
import Derived.Lib.AppendStr
import Derived.Lib.BufferKept
import Derived.Lib.OthersKept
import Derived.OwnWalk
import Derived.BigCall
namespace Go.Proofs.YthapckfahfnpjaaDoor
open Go.RowKit Go.Shelf
set_option linter.unusedVariables false
set_option linter.unusedSimpArgs false

/-- the name of the library's table of powers of ten, as the row has it -/
abbrev powName : String := ((Rows.fnExactSetReadRow.named.drop 5).headD "")
/-- that table reads as it must, whatever is done from block B on -/
def Tab (B : Nat) (w : World) : Prop := Lib.TabBelow Tryd.prog B w powName .u64 Lib.pow10Tab
theorem Tab.on {B : Nat} {w w1 : World} (h : Tab B w) (hb : Below B w w1) : Tab B w1 := Lib.TabBelow.on h hb
theorem Tab.up {B C : Nat} {w : World} (h : Tab B w) (hb : B ≤ C) : Tab C w := fun w' h' => h w' (h'.mono hb)

/-- v is the text l so far, in memory from block B on; but for that nothing older than W0 has turned, and no block that holds no bytes -/
def Bf (B : Nat) (W0 w : World) (v : Value) (l : List UInt8) : Prop :=
  w.ownsRow B 5 1 v l.length (Lib.byteCells l) ∧ Below B W0 w ∧ B ≤ w.heap.size ∧ Lib.OthersKept 5 none W0 w
theorem Bf.alloc {B : Nat} {W0 w : World} {v : Value} {l : List UInt8} (h : Bf B W0 w v l) (o : Obj) : Bf B W0 (w.alloc o) v l :=
  ⟨h.1.alloc o, h.2.1.alloc h.2.2.1 o, by have := h.2.2.1; simp; omega, h.2.2.2.alloc o⟩
theorem Bf.nil {B : Nat} {W0 : World} (hB : B ≤ W0.heap.size) : Bf B W0 W0 (.slice none 0 0) [] :=
  ⟨World.ownsRow_nil _ _ _ _, Below.refl _ _, hB, Lib.OthersKept.refl _ _ _⟩
theorem Bf.cell {B : Nat} {W0 w : World} {v : Value} {l : List UInt8} (h : Bf B W0 w v l) {b o : Nat} {x : Value} {cs : Array Value} {t : TypeId} {fr : Nat × Nat} (hb : W0.heap[b]? = some (.cells cs t fr)) (ht : t ≠ 5) (hx : W0.cell? ⟨b, o, none⟩ = some x) : w.cell? ⟨b, o, none⟩ = some x := by
  have := h.2.2.2 b _ hb (by simp) (fun c fz e => by cases e; exact ht rfl)
  exact (World.cell?_of_block (w := W0) (a := ⟨b, o, none⟩) (this.trans hb.symm)).trans hx

theorem alloc_new (w : World) (o : Obj) : (w.alloc o).heap[w.heap.size]? = some o := heap_alloc_new w o
theorem boxCell {W : World} {b : Nat} {cs : Array Value} {t : TypeId} {i : Nat} {v : Value} (h : W.heap[b]? = some (.cells cs t (0, 0))) (hv : cs[i]? = some v) : W.cell? ⟨b, i, none⟩ = some v := by
  simp [World.cell?, h, hv]
theorem Bf.base {B : Nat} {W0 w : World} {v : Value} {l : List UInt8} (h : Bf B W0 w v l) : Bf B w w v l := ⟨h.1, Below.refl _ _, h.2.2.1, Lib.OthersKept.refl _ _ _⟩
theorem Bf.over {B : Nat} {W0 W1 w : World} {v v' : Value} {l l' : List UInt8} (h : Bf B W0 W1 v l) (h' : Bf B W1 w v' l') : Bf B W0 w v' l' := ⟨h'.1, h.2.1.trans h'.2.1, h'.2.2.1, h.2.2.2.trans h'.2.2.2⟩
theorem infoByte : (Tryd.prog.info? 5).map (fun i => (i.zero, i.size, i.bytes)) = some (some (.int .u8 0), 1, 1) := by kernel_rfl

theorem byteCells_app (a b : List UInt8) : Lib.byteCells (a ++ b) = Lib.byteCells a ++ Lib.byteCells b := by simp [Lib.byteCells]
/-- the type of the own row is the byte's -/
theorem grown_kept {B : Nat} {W0 w w' : World} {v : Value} {n : Nat} {xs : List Value} (ho : w.ownsRow B 5 1 v n xs) (hk : Lib.OthersKept 5 none W0 w) (hg : w.grownBy w' v.ownBlock) : Lib.OthersKept 5 none W0 w' := by
  intro k o hk0 hne hno
  have h1 := hk k o hk0 hne hno
  have hlt : k < w.heap.size := (Array.getElem?_eq_some_iff.1 h1).1
  by_cases e : some k = v.ownBlock
  · rcases ho.2 with ⟨rfl, _⟩ | ⟨g, cap, cur, rfl, _, hg1, _⟩
    · cases e
    · obtain rfl : k = g := Option.some.inj e
      rw [h1] at hg1
      cases hg1
      exact absurd rfl (hno _ _)
  · exact (hg.block k hlt e).trans h1
theorem grown_below {B : Nat} {W0 w w' : World} {v : Value} {n : Nat} {xs : List Value} (ho : w.ownsRow B 5 1 v n xs) (hb : Below B W0 w) (hs : B ≤ w.heap.size) (hg : w.grownBy w' v.ownBlock) : Below B W0 w' :=
  hb.grown hg hs (fun j hj => by
    rcases ho.2 with ⟨rfl, _⟩ | ⟨g, cap, cur, rfl, h1, _⟩
    · cases hj
    · obtain rfl : g = j := Option.some.inj hj
      exact h1)

theorem wp_byte {ops : Array Oper} {rest : List Oper} {o : Oper} {a : Act} {Q : Exit → Act → World → Prop} {B : Nat} {W0 w : World} {v : Value} {l : List UInt8} (c : UInt8) (ci : Int) (hci : ci = (c.toNat : Int)) (hb : Bf B W0 w v l) (hgd : o.guard = none) (s x : Operand)
    (ho : o.op = .call { callee := .builtin .append, args := #[s, x], argTypes := #[49, 49] }) (hs : a.eval s = v) {g : Nat} (hx : a.eval x = .slice (some ⟨g, 0, none⟩) 1 1) (hg0 : g = w.heap.size) (hlen : l.length + 1 ≤ 140737488355328)
    (h : ∀ v' w', Bf B W0 w' v' (l ++ [c]) → wpList Tryd.prog ops Q rest (a.put o.dst v') w') : wpList Tryd.prog ops Q (o :: rest) a (w.alloc (.cells #[.int .u8 ci] 5)) := by
  subst hci
  subst hg0
  obtain ⟨i0, hi, hz0, hz1, hz2⟩ := info_parts infoByte
  have hb1 := hb.alloc (.cells #[.int .u8 (c.toNat : Int)] 5)
  refine wpList_append_own _ hgd s x 49 ho B 5 i0 (.int .u8 0) 1 1 Tryd.underlying49 hi hz0 hz1 hz2 rfl (by decide) v l.length (Lib.byteCells l) hs hb1.1 ⟨w.heap.size, 0, none⟩ 1 1 [.int .u8 (c.toNat : Int)] hx rfl ?_ ?_ (by unfold maxLen; omega) (by omega) hb1.2.2.1 ?_
  · intro j u hj
    match j, hj with
    | 0, hj => simp at hj; subst hj; simp [Addr.add]
  · intro u hu; simp at hu; subst hu; rfl
  · intro v' w' ho' hg _
    refine h v' w' ⟨?_, grown_below hb1.1 hb1.2.1 hb1.2.2.1 hg, Nat.le_trans hb1.2.2.1 hg.size, grown_kept hb1.1 hb1.2.2.2 hg⟩
    rw [byteCells_app, List.length_append]
    exact ho'

theorem strCells_eq (s : ByteArray) : Lib.strCells s = Lib.byteCells (tx s) := by simp [Lib.strCells, Lib.byteCells, tx]

theorem wp_text {ops : Array Oper} {rest : List Oper} {o : Oper} {a : Act} {Q : Exit → Act → World → Prop} {B : Nat} {W0 w : World} {v : Value} {l : List UInt8} (st : ByteArray) (hb : Bf B W0 w v l) (hgd : o.guard = none) (s x : Operand)
    (ho : o.op = .call { callee := .builtin .append, args := #[s, x], argTypes := #[49, 9] }) (hs : a.eval s = v) (hx : a.eval x = .string st) (hlen : l.length + st.size ≤ 140737488355328)
    (h : ∀ v' w', Bf B W0 w' v' (l ++ tx st) → wpList Tryd.prog ops Q rest (a.put o.dst v') w') : wpList Tryd.prog ops Q (o :: rest) a w := by
  obtain ⟨i0, hi, hz0, hz1, hz2⟩ := info_parts infoByte
  refine Lib.wpList_append_own_string _ hgd s x 49 9 ho B 5 i0 Tryd.underlying49 Tryd.underlying9 hi hz0 hz1 hz2 v l.length (Lib.byteCells l) hs hb.1 st hx (by unfold maxLen; omega) hlen hb.2.2.1 ?_
  intro v' w' ho' hg _
  refine h v' w' ⟨?_, grown_below hb.1 hb.2.1 hb.2.2.1 hg, Nat.le_trans hb.2.2.1 hg.size, grown_kept hb.1 hb.2.2.2 hg⟩
  rw [byteCells_app, List.length_append, ← tx_size, ← strCells_eq]
  exact ho'

/-- the text as a string -/
theorem Bf.conv {B : Nat} {W0 w : World} {v : Value} {l : List UInt8} (h : Bf B W0 w v l) (hl : l ≠ []) : (convert 49 9 v).run Tryd.prog w = .ok (.string ⟨l.toArray⟩) w := by
  have hpos : 0 < l.length := List.length_pos_iff.2 hl
  rcases h.1.2 with ⟨-, h0⟩ | ⟨g, cap, cur, rfl, -, -, -, -, -, -⟩
  · omega
  · exact run_convert_bytes_back (P := Tryd.prog) w 49 9 5 ⟨g, 0, none⟩ cap l Tryd.underlying49 Tryd.underlying5 Tryd.underlying9 (fun j hj => h.1.cells (g := g) rfl j _ (by simp [Lib.byteCells, hj]))

theorem appendInt_any (B : Nat) (W0 w : World) (v : Value) (l : List UInt8) (x : Int) (hx : In64 x) (hb : Bf B W0 w v l) (ht : Tab B w) (hlen : l.length ≤ 140737488000000) :
    Calls Tryd.prog 40 #[v, .int .i64 x, .int .i64 10] w fun e w' => ∃ v', e = .returned v' ∧ Bf B W0 w' v' (l ++ Lib.itoa x) := by
  refine (show Calls Tryd.prog 40 #[v, .int .i64 x, .int .i64 10] w fun e w' => ∃ v', e = .returned v' ∧ w'.ownsRow B 5 1 v' (l.length + (Lib.itoa x).length) (Lib.byteCells l ++ Lib.byteCells (Lib.itoa x)) ∧ Below B w w' ∧ Lib.OthersKept 5 none w w' from
    Any.strconv_AppendInt_10 YthapckfahfnpjaaDoor.Tryd.laysAI B l.length x hx.1 hx.2 v (Lib.byteCells l) w hb.1 hb.2.2.1 (by omega) ht).mono ?_
  rintro e w' ⟨v', rfl, ho, hbw, hk⟩
  refine ⟨v', rfl, ?_, hb.2.1.trans hbw, Nat.le_trans hb.2.2.1 hbw.size, hb.2.2.2.trans hk⟩
  rw [byteCells_app, List.length_append]
  exact ho

end Go.Proofs.YthapckfahfnpjaaDoor

