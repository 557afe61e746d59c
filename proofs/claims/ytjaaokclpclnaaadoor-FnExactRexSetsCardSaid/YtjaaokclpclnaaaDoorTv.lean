/- a box that holds a row of words of one's own: a word is set behind it; the words are joined -/
import Derived.Test.YtjaaokclpclnaaaDoorTu
namespace Go.Proofs.YtjaaokclpclnaaaDoor
open Go.RowKit Go.Shelf
set_option linter.unusedVariables false
set_option linter.unusedSimpArgs false
attribute [local go_sem] Oper.semAt_some

/-- the box Bw holds the slice g n c, a row of the words ws that lies at base or behind it -/
def Wd (Bw base : Nat) (ws : List ByteArray) (W : World) (g : Option Addr) (n c : Nat) : Prop :=
  W.cell? ⟨Bw, 0, none⟩ = some (.slice g n c) ∧ W.frozen? ⟨Bw, 0, none⟩ = false ∧ W.ownsRow base 9 1 (.slice g n c) ws.length (ws.map .string)
/-- what the loop writes into -/
def XW (Bw base : Nat) (k : Nat) (o : Obj) : Prop := k = Bw ∨ (base ≤ k ∧ ∃ cs fr, o = .cells cs 9 fr)

theorem owns_of_block {W W' : World} {base : Nat} {v : Value} {n : Nat} {xs : List Value} (h : W.ownsRow base 9 1 v n xs) (hb : ∀ k, base ≤ k → k < W.heap.size → W'.heap[k]? = W.heap[k]?) : W'.ownsRow base 9 1 v n xs := by
  refine ⟨h.1, ?_⟩
  rcases h.2 with h | ⟨g, cap, cur, e1, e2, e3, e4⟩
  · exact .inl h
  · exact .inr ⟨g, cap, cur, e1, e2, (hb g e2 (Array.getElem?_eq_some_iff.1 e3).1).trans e3, e4⟩
theorem Wd.keeps {Bw base : Nat} {ws : List ByteArray} {W W' : World} {g : Option Addr} {n c : Nat} {Y : Nat → Prop} (h : Wd Bw base ws W g n c) (hk : Keeps Y W W') (hY : ∀ k, Y k → k ≠ Bw ∧ k < base) : Wd Bw base ws W' g n c :=
  ⟨hk.cell h.1 (fun e => (hY _ e).1 rfl), (hk.frozen h.1 (fun e => (hY _ e).1 rfl)).trans h.2.1, owns_of_block h.2.2 (fun k h1 h2 => hk.block k h2 (fun e => by have := (hY _ e).2; omega))⟩
theorem Wd.below {Bw base : Nat} {ws : List ByteArray} {W W' : World} {g : Option Addr} {n c : Nat} (h : Wd Bw base ws W g n c) (hb : Below W.heap.size W W') : Wd Bw base ws W' g n c :=
  h.keeps (keeps_of_below (fun _ => False) hb) (fun _ e => e.elim)
theorem keepsO_of_keeps {X : Nat → Obj → Prop} {Y : Nat → Prop} {W W' : World} (h : Keeps Y W W') (hY : ∀ k o, Y k → W.heap[k]? = some o → X k o) : KeepsO X W W' :=
  ⟨h.os, h.tape, h.output, h.size, fun k o hk hx => (h.block k (Array.getElem?_eq_some_iff.1 hk).1 (fun e => hx (hY k o e hk))).trans hk⟩
/-- new blocks do not count -/
theorem KeepsO.trans_new {X : Nat → Obj → Prop} {Y : Nat → Prop} {A B C : World} (h : KeepsO X A B) (k : Keeps Y B C) (hY : ∀ i, Y i → A.heap.size ≤ i) : KeepsO X A C :=
  ⟨k.os.trans h.os, k.tape.trans h.tape, k.output.trans h.output, Nat.le_trans h.size k.size, fun i o hi hx => by
    have hlt := (Array.getElem?_eq_some_iff.1 hi).1
    exact (k.block i (Nat.lt_of_lt_of_le hlt h.size) (fun e => by have := hY i e; omega)).trans (h.same i o hi hx)⟩

theorem opIn_word {o : Oper} {a : Act} {Q : Exit → Act → World → Prop} {K : Act → World → Prop} {w : World} (s x : Operand) {g : Option Addr} {n c b : Nat} {u : ByteArray} {Bw base : Nat} {ws : List ByteArray}
    (hop : o.op = Op.call { callee := Callee.builtin Builtin.append, args := #[s, x], argTypes := #[56, 56] })
    (hs : a.eval s = .slice g n c) (hx : a.eval x = .slice (some ⟨b, 0, none⟩) 1 1) (hc : w.cell? ⟨b, 0, none⟩ = some (.string u))
    (hW : Wd Bw base ws w g n c) (hl : ws.length ≤ 1000) (hBw : Bw < base) (hb : base ≤ w.heap.size)
    (hK : ∀ (g' : Option Addr) (n' c' : Nat) (w' : World), w'.cell? ⟨Bw, 0, none⟩ = some (.slice g n c) → w'.frozen? ⟨Bw, 0, none⟩ = false →
      Hid (Wd Bw base (ws ++ [u]) (w'.setCell ⟨Bw, 0, none⟩ (.slice g' n' c')) g' n' c' ∧ KeepsO (XW Bw base) w (w'.setCell ⟨Bw, 0, none⟩ (.slice g' n' c'))) → K (a.put o.dst (.slice g' n' c')) w') :
    o.wpIn Fence.wide 0 Tryd.prog a w K Q := by
  obtain ⟨i0, hi, hz0, hz1, hz2⟩ := info_parts Tryd.info9
  obtain ⟨h1, h2, h3⟩ := hW
  obtain ⟨v', w', hrun, r1, r2, r3⟩ := run_append_own (P := Tryd.prog) w base 56 o.type 9 i0 _ 1 16 Tryd.underlying56 hi hz0 hz1 hz2 (by simp [Value.cells]) (by omega) (.slice g n c) ws.length (ws.map .string) h3 ⟨b, 0, none⟩ 1 1 [.string u] rfl
    (fun j u' hj => by
      cases j with
      | zero => simp at hj; subst hj; simpa [Addr.add] using hc
      | succ j => simp at hj)
    (fun u' hu => by simp at hu; subst hu; rfl) (by simp only [maxLen]; omega) (by omega) hb
  have hne : ∀ k, (Value.slice g n c).ownBlock = some k → base ≤ k ∧ ∃ cur, w.heap[k]? = some (.cells cur 9 (0, 0)) := fun k hk => by
    rcases h3.2 with ⟨e, _⟩ | ⟨g0, cap, cur, e1, e2, e3, _⟩
    · rw [e] at hk; cases hk
    · rw [e1] at hk
      obtain rfl : g0 = k := Option.some.inj hk
      exact ⟨e2, cur, e3⟩
  have hnB : some Bw ≠ (Value.slice g n c).ownBlock := fun e => by have := (hne Bw e.symm).1; omega
  have hBs : w'.heap[Bw]? = w.heap[Bw]? := r2.block Bw (by omega) hnB
  have hcell : w'.cell? ⟨Bw, 0, none⟩ = some (.slice g n c) := (World.cell?_of_block (w := w) hBs).trans h1
  have hfr : w'.frozen? ⟨Bw, 0, none⟩ = false := (World.frozen?_of_block (w := w) hBs).trans h2
  obtain ⟨g', n', c', rfl⟩ : ∃ g' n' c', v' = .slice g' n' c' := by
    rcases r1.2 with ⟨e, _⟩ | ⟨g0, cap, cur, e1, _⟩
    · exact ⟨_, _, _, e⟩
    · exact ⟨_, _, _, e1⟩
  have hfin : Hid (Wd Bw base (ws ++ [u]) (w'.setCell ⟨Bw, 0, none⟩ (.slice g' n' c')) g' n' c' ∧ KeepsO (XW Bw base) w (w'.setCell ⟨Bw, 0, none⟩ (.slice g' n' c'))) := by
    refine ⟨⟨World.cell?_setCell_same' _ _ _ (by rw [hcell]; rfl), by rw [World.frozen?_setCell]; exact hfr, ?_⟩, ?_⟩
    · have := owns_of_block (W' := w'.setCell ⟨Bw, 0, none⟩ (.slice g' n' c')) r1 (fun k h1 h2 => Below.heap_setCell _ _ _ _ (fun e => by simp at e; omega))
      simpa using this
    · refine (keepsO_grown (X := XW Bw base) r2 (fun k o' hk ho => .inr ⟨(hne k hk).1, ?_⟩)).trans (keepsO_setCell w' ⟨Bw, 0, none⟩ _ (fun o' _ => .inl rfl))
      obtain ⟨cur, hcur⟩ := (hne k hk).2
      rw [hcur] at ho
      exact ⟨cur, (0, 0), (Option.some.inj ho).symm⟩
  unfold Oper.wpIn
  refine ⟨?_, ?_⟩
  · simp [Oper.about, hop, resolve, Target.leads, Sem.run_pure]
  · rw [Oper.semAt_plain Fence.wide _ _ (by rw [hop]; intro c hc'; cases hc')]
    simp [execOp, hop, resolve, invoke, builtin, hs, hx, hrun, Result.andThen]
    exact hK g' n' c' w' hcell hfr hfin

theorem join_words (ws : List ByteArray) (hne : ws ≠ []) (base Bw : Nat) (g : Option Addr) (n c : Nat) (w : World) (hW : Wd Bw base ws w g n c) (hl : ws.length ≤ 1000) (T : List UInt8) (hT : Lib.join (ws.map tx) [32] = T) (hlen : T.length ≤ 100000000) :
    Calls Tryd.prog 46 #[.slice g n c, .string ⟨#[32]⟩] w fun e w' => e = .returned (.string ⟨T.toArray⟩) ∧ Below w.heap.size w w' := by
  obtain ⟨h1, h2, h3, h4⟩ := hW
  rcases h4 with ⟨e, e0⟩ | ⟨g0, cap, cur, e1, e2, e3, e4, e5, e6, e7⟩
  · exact absurd (List.length_eq_zero_iff.1 e0) hne
  · cases e1
    have h := Any.strings_Join Tryd.lays156 Tryd.Builder_Extra_156 g0 0 c ws ⟨#[32]⟩ w
      (fun j x hx => by
        have hx' : (ws.map Value.string)[j]? = some (.string x) := by rw [List.getElem?_map, hx]; rfl
        rw [← e7, List.getElem?_take] at hx'
        split at hx'
        · rw [Nat.zero_add]
          rw [Array.getElem?_toList] at hx'
          simp [World.cell?, e3, hx']
        · cases hx')
      (Array.getElem?_eq_some_iff.1 e3).1 (by omega) e4
      (by rw [show (ws.map (·.data.toList)) = ws.map tx from rfl, show (ByteArray.mk #[32]).data.toList = [32] from rfl, hT]; omega)
    rw [show (ws.map (·.data.toList)) = ws.map tx from rfl, show (ByteArray.mk #[32]).data.toList = [32] from rfl, hT] at h
    exact h
end Go.Proofs.YtjaaokclpclnaaaDoor
