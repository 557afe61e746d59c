/- the methods of the kinds, found by their name -/
import Derived.Test.YtplpdikkkbiacaaGreatDoorTi
namespace Go.Proofs.YtplpdikkkbiacaaGreatDoor
open Go.RowKit
set_option linter.unusedVariables false
set_option linter.unusedSimpArgs false

theorem wpAt_block {P : Program} {fn : FuncId} {id : Nat} {c : Code} {Q : Exit → Act → World → Prop} {a : Act} {w : World} (h : wpAt fn P c (Exit.inBlock id Q) a w) : wpAt fn P (Code.block id c) Q a w := by
  intro b k cs hro hb
  have h0 : (lone (b.atR a (.code (.block id c) :: k)) cs w).fenced P Fence.wide := fenced_wide _ _
  obtain ⟨e, a₁, w₁, hq, harr⟩ := h b (.inBlock id :: k) cs hro hb
  cases e with
  | normal => exact ⟨.normal, a₁, w₁, hq, .head h0 stepR_block (StepsIn.trans harr (.one (fenced_wide _ _) stepR_inBlock))⟩
  | exit id' =>
    by_cases hid : id' = id
    · simp only [Exit.inBlock, hid, if_true] at hq
      exact ⟨.normal, a₁, w₁, hq, .head h0 stepR_block (harr.1 k (by simp [exitTo, hid]))⟩
    · simp only [Exit.inBlock, hid, if_false] at hq
      have this : (id == id') = false := by simp; exact fun h => hid h.symm
      have hx : exitTo id' (.inBlock id :: k) = exitTo id' k := by simp [exitTo, this]
      exact ⟨.exit id', a₁, w₁, hq, fun k' hk => .head h0 stepR_block (harr.1 k' (by rw [hx]; exact hk)),
        fun hr' hk => let ⟨k₁, h1, h2⟩ := harr.2 hr' (by rw [hx]; exact hk); ⟨k₁, h1, .head h0 stepR_block h2⟩⟩
  | goto l =>
    have hx : gotoIn l (.inBlock id :: k) = gotoIn l k := by simp [gotoIn]
    exact ⟨_, a₁, w₁, hq, fun k' hk => .head h0 stepR_block (harr.1 k' (by rw [hx]; exact hk)),
      fun hr' hk => let ⟨k₁, h1, h2⟩ := harr.2 hr' (by rw [hx]; exact hk); ⟨k₁, h1, .head h0 stepR_block h2⟩⟩
  | ret => exact ⟨_, a₁, w₁, hq, .of_steps (.one h0 stepR_block) harr⟩
  | panic ch => exact ⟨_, a₁, w₁, hq, .of_steps (.one h0 stepR_block) harr⟩
  | outgrown => exact ⟨_, a₁, w₁, hq, .of_steps (.one h0 stepR_block) harr⟩

theorem Keeps.trans_new {X Y : Nat → Prop} {A B C : World} (h : Keeps X A B) (k : Keeps Y B C) (hY : ∀ i, Y i → A.heap.size ≤ i) : Keeps X A C :=
  ⟨k.os.trans h.os, k.tape.trans h.tape, k.output.trans h.output, Nat.le_trans h.size k.size,
   fun i hi hx => (k.block i (Nat.lt_of_lt_of_le hi h.size) (fun e => absurd (hY i e) (by omega))).trans (h.block i hi hx)⟩
theorem Keeps.frozen {X : Nat → Prop} {A B : World} (h : Keeps X A B) {p : Addr} {v : Value} (hc : A.cell? p = some v) (hx : ¬ X p.block) : B.frozen? p = A.frozen? p :=
  World.frozen?_of_block (w := A) (h.block p.block (World.block_lt_of_cell? _ _ hc) hx)

/-- a part is as it must be -/
def goodS (S : Sh) : Bool := goodB S.kind S.n S.L S.H S.m

theorem mem_catN {α : Type} {f : Nat → List α} {x : α} : ∀ {m : Nat}, x ∈ catN f m ↔ ∃ i, i < m ∧ x ∈ f i
  | 0 => by simp [catN]
  | m + 1 => by
    simp only [catN, List.mem_append, mem_catN (m := m)]
    constructor
    · rintro (⟨i, hi, h⟩ | h)
      · exact ⟨i, by omega, h⟩
      · exact ⟨m, by omega, h⟩
    · rintro ⟨i, hi, h⟩
      by_cases e : i = m
      · subst e; exact .inr h
      · exact .inl ⟨i, by omega, h⟩
theorem length_catN {α : Type} (f : Nat → List α) : ∀ m, (catN f m).length = sumN (fun i => (f i).length) m
  | 0 => rfl
  | m + 1 => by simp only [catN, List.length_append, length_catN f m, sumN]
/-- each part of a Rex lies where it must -/
theorem parts_in {B : Nat → Prop} {w : World} {S : Sh} : ∀ {d : Nat} {M : Mx} {x : Part}, In B w S M → x ∈ partsL S d M → In B w x.2.1 x.2.2 := by
  induction S using Sh.ind with
  | h kind n L H m K ih =>
    intro d M x h hx
    obtain ⟨sv, kv, M, rfl⟩ := Mx.cases M
    simp only [partsL_mk, List.mem_cons, mem_catN] at hx
    rcases hx with rfl | ⟨i, hi, hx⟩
    · exact h
    · obtain ⟨a, b, off, cap, a', b', off', cap', e1, hn, hs, hl, e2, hm, hl', hk⟩ := h
      exact ih i hi (hk i hi).2 hx

theorem parts_cnt {S : Sh} : ∀ {d : Nat} {M : Mx} {x : Part}, x ∈ partsL S d M → x.1 + cnt x.2.1 ≤ d + cnt S := by
  induction S using Sh.ind with
  | h kind n L H m K ih =>
    intro d M x hx
    obtain ⟨sv, kv, M, rfl⟩ := Mx.cases M
    simp only [partsL_mk, List.mem_cons, mem_catN] at hx
    rcases hx with rfl | ⟨i, hi, hx⟩
    · exact Nat.le_refl _
    · have h1 := ih i hi hx
      have h2 := sumN_at (f := fun i => cnt (K i)) hi
      simp only [cnt_mk]; omega

theorem form_parts {B : Nat → Prop} {w : World} {S : Sh} : ∀ {d d0 : Nat} {M : Mx}, In B w S M → (formB d0 S = true ↔ ∀ x ∈ partsL S d M, x.1 < d + d0 ∧ goodS x.2.1 = true) := by
  induction S using Sh.ind with
  | h kind n L H m K ih =>
    intro d d0 M h
    obtain ⟨sv, kv, M, rfl⟩ := Mx.cases M
    cases d0 with
    | zero =>
      constructor
      · intro e; simp [formB] at e
      · intro e
        have := (e (d, .mk kind n L H m K, .mk sv kv M) (by simp [partsL_mk])).1
        simp at this
    | succ d0 =>
      obtain ⟨a, b, off, cap, a', b', off', cap', e1, hn, hs, hl, e2, hm, hl', hk⟩ := h
      simp only [formB_mk, Bool.and_eq_true, List.all_eq_true, List.mem_range, partsL_mk, List.mem_cons, mem_catN]
      constructor
      · rintro ⟨hg, hf⟩ x (rfl | ⟨i, hi, hx⟩)
        · exact ⟨by simp, hg⟩
        · have := (ih i hi (d := d + 1) (hk i hi).2).1 (hf i hi) x hx
          exact ⟨by omega, this.2⟩
      · intro e
        refine ⟨(e _ (.inl rfl)).2, fun i hi => (ih i hi (d := d + 1) (hk i hi).2).2 (fun x hx => ?_)⟩
        have := e x (.inr ⟨i, hi, hx⟩)
        exact ⟨by omega, this.2⟩

theorem many_parts {B : Nat → Prop} {w : World} {S : Sh} : ∀ {d d0 : Nat} {M : Mx}, In B w S M → formB d0 S = true → manyN d0 S = (partsL S d M).length := by
  induction S using Sh.ind with
  | h kind n L H m K ih =>
    intro d d0 M h hf
    obtain ⟨sv, kv, M, rfl⟩ := Mx.cases M
    cases d0 with
    | zero => simp [formB] at hf
    | succ d0 =>
      obtain ⟨a, b, off, cap, a', b', off', cap', e1, hn, hs, hl, e2, hm, hl', hk⟩ := h
      simp only [formB_mk, Bool.and_eq_true, List.all_eq_true, List.mem_range] at hf
      simp only [manyN_mk, partsL_mk, List.length_cons, length_catN]
      rw [sumN_congr (fun i hi => ih i hi (d := d + 1) (hk i hi).2 (hf.2 i hi))]
      simp only [Mx.mk_kid]
      omega

theorem okR_parts {B : Nat → Prop} {w : World} {S : Sh} {M : Mx} (h : In B w S M) : okR S = true ↔ (partsL S 0 M).length ≤ 24 ∧ ∀ x ∈ partsL S 0 M, x.1 < 8 ∧ goodS x.2.1 = true := by
  have h1 := form_parts (d := 0) (d0 := 8) h
  simp only [Nat.zero_add] at h1
  simp only [okR, Bool.and_eq_true, decide_eq_true_eq]
  constructor
  · rintro ⟨hf, hm⟩
    rw [many_parts (d := 0) h hf] at hm
    exact ⟨hm, h1.1 hf⟩
  · rintro ⟨hm, hf⟩
    have hf' := h1.2 hf
    exact ⟨hf', by rw [many_parts (d := 0) h hf']; exact hm⟩

end Go.Proofs.YtplpdikkkbiacaaGreatDoor
namespace Go.Proofs.YtplpdikkkbiacaaGreatDoor
open Go.RowKit Go.Shelf
set_option linter.unusedVariables false
set_option linter.unusedSimpArgs false

/-- the name of the first method that is called through an interface in a piece of code -/
def invOps (ops : List Oper) : Option String := ops.findSome? fun o => match o.op with
  | .call c => (match c.callee with | .invoke _ nm => some nm | _ => none)
  | _ => none
def invCode : Code → Option String
  | .region _ ops _ => invOps ops.toList
  | .seq x y => match invCode x with | some s => some s | none => invCode y
  | .block _ c => invCode c
  | .rangeFunc _ _ _ b => invCode b
  | _ => none

theorem meth_kids (k : Int) (h : kidsOf k ≠ -1) (nm : String) (hn : nm = (Tryz.f80.body.bind invCode).getD "") (w : World) : (method 325 (kindT k) (.agg #[]) nm).run Tryz.prog w = .ok (kidsF k, .agg #[]) w := by
  subst hn
  rcases kind_cases h with rfl | rfl | rfl | rfl | rfl | rfl | rfl
  all_goals kernel_rfl
theorem enter_kids (k : Int) (h : kidsOf k ≠ -1) (args : Array Value) (w : World) : (callFunc (kidsF k) args).run Tryz.prog w = .ok (.enter (kidsF k) args) w := by
  rcases kind_cases h with rfl | rfl | rfl | rfl | rfl | rfl | rfl
  · exact enters_of Tryz.func136 (by kernel_rfl) rfl args w
  · exact enters_of Tryz.func140 (by kernel_rfl) rfl args w
  · exact enters_of Tryz.func144 (by kernel_rfl) rfl args w
  · exact enters_of Tryz.func148 (by kernel_rfl) rfl args w
  · exact enters_of Tryz.func152 (by kernel_rfl) rfl args w
  · exact enters_of Tryz.func156 (by kernel_rfl) rfl args w
  · exact enters_of Tryz.func160 (by kernel_rfl) rfl args w
end Go.Proofs.YtplpdikkkbiacaaGreatDoor

