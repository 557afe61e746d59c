/- what is told by the parts of a Rex; a block that holds a range over a function; no Go text is walked here -/
import Derived.Test.YtcpbkkdjaojfiaaGreatDoorTi
namespace Go.Proofs.YtcpbkkdjaojfiaaGreatDoor
open Go.RowKit
set_option linter.unusedVariables false
set_option linter.unusedSimpArgs false

theorem wpAt_block {P : Program} {fn : FuncId} {id : Nat} {c : Code} {Q : Exit → Act → World → Prop} {a : Act} {w : World} (h : wpAt fn P c (Exit.inBlock id Q) a w) : wpAt fn P (Code.block id c) Q a w := by
  intro b k cs hro hb
  have h0 : (lone (b.atR a (.code (.block id c) :: k)) cs w).fenced P Fence.wide := fenced_wide _ _
  obtain ⟨e, a₁, w₁, hq, harr⟩ := h b (.inBlock id :: k) cs hro hb
  cases e with
  | normal => exact ⟨.normal, a₁, w₁, hq, .head h0 stepR_block (StepsIn.trans harr (.one (fenced_wide _ _) stepR_inBlock))⟩
  | exit id' =>
    by_cases hid : id' = id
    · simp only [Exit.inBlock, hid, if_true] at hq
      exact ⟨.normal, a₁, w₁, hq, .head h0 stepR_block (harr.1 k (by simp [exitTo, hid]))⟩
    · simp only [Exit.inBlock, hid, if_false] at hq
      have this : (id == id') = false := by simp; exact fun h => hid h.symm
      have hx : exitTo id' (.inBlock id :: k) = exitTo id' k := by simp [exitTo, this]
      exact ⟨.exit id', a₁, w₁, hq, fun k' hk => .head h0 stepR_block (harr.1 k' (by rw [hx]; exact hk)),
        fun hr' hk => let ⟨k₁, h1, h2⟩ := harr.2 hr' (by rw [hx]; exact hk); ⟨k₁, h1, .head h0 stepR_block h2⟩⟩
  | goto l =>
    have hx : gotoIn l (.inBlock id :: k) = gotoIn l k := by simp [gotoIn]
    exact ⟨_, a₁, w₁, hq, fun k' hk => .head h0 stepR_block (harr.1 k' (by rw [hx]; exact hk)),
      fun hr' hk => let ⟨k₁, h1, h2⟩ := harr.2 hr' (by rw [hx]; exact hk); ⟨k₁, h1, .head h0 stepR_block h2⟩⟩
  | ret => exact ⟨_, a₁, w₁, hq, .of_steps (.one h0 stepR_block) harr⟩
  | panic ch => exact ⟨_, a₁, w₁, hq, .of_steps (.one h0 stepR_block) harr⟩
  | outgrown => exact ⟨_, a₁, w₁, hq, .of_steps (.one h0 stepR_block) harr⟩

/-- no operation of the region defers a call -/
def noDefer (ops : Array Oper) : Bool := ops.all fun o => match o.op with | .defer _ => false | _ => true

theorem wpOpsIn_inRound {P : Program} {ops : Array Oper} {Q : Exit → Act → World → Prop} (hnd : noDefer ops = true) (l : Nat) (is : List Nat) :
    ∀ (a : Act) (w : World), wpOpsIn Fence.wide 0 P ops Q is a w → wpOpsIn (Fence.wide.inRound l) 0 P ops Q is a w := by
  induction is with
  | nil => exact fun a w h => h
  | cons i rest ih =>
    intro a w h
    simp only [wpOpsIn] at h ⊢
    cases ho : ops[i]? with
    | none => simp only [ho] at h ⊢; exact ih a w h
    | some o =>
      simp only [ho] at h ⊢
      have hod : ∀ c, o.op ≠ .defer c := fun c e => by
        have hm : o ∈ ops := Array.mem_of_getElem? ho
        simp only [noDefer, Array.all_eq_true_iff_forall_mem] at hnd
        have := hnd o hm
        rw [e] at this
        cases this
      by_cases hw : Region.wanted o (yielded ops a.tmps) = true
      · simp only [hw, if_true, Oper.wpIn] at h ⊢
        refine ⟨h.1, ?_⟩
        have h2 := h.2
        simp only [Fence.inRound_round] at h2 ⊢
        rw [Oper.semAt_eq _ _ _ hod] at h2 ⊢
        revert h2
        cases ((execOp a.eval o).run P w) with
        | ok x w' =>
          cases x with
          | value v => exact fun h2 => ih _ _ h2
          | skip => exact fun h2 => ih _ _ h2
          | defer d => exact fun h2 => ih _ _ h2
          | enter f args =>
            rintro ⟨h3, h4⟩
            refine ⟨h3, CallsIn.inRound l (h4.mono fun e w'' hR => ?_)⟩
            cases e with
            | returned v => exact ih _ _ hR
            | panicked ch => exact hR
            | outgrown => exact hR
          | row r args =>
            rintro ⟨h3, h4⟩
            exact ⟨h3, h4.mono fun v w'' hR => ih _ _ hR⟩
          | round l' f tmps assign body =>
            rintro ⟨h3, h4⟩
            refine ⟨h3, h4.mono fun e w'' hR => ?_⟩
            cases e with
            | returned v => exact ih _ _ hR
            | panicked ch => exact hR
            | outgrown => exact hR
          | _ => exact fun h2 => h2.elim
        | halt x w' =>
          cases x with
          | panic v => exact fun h2 => h2
          | _ => exact fun h2 => h2.elim
      · simp only [hw, if_false, Bool.false_eq_true] at h ⊢
        exact ⟨h.1, ih _ _ h.2⟩

/-- a region that draws its order, in a round: it is walked as anywhere -/
theorem wpIn_region_any_round {P : Program} {ops : Array Oper} {Q : Exit → Act → World → Prop} {id l : Nat} {a : Act} {w : World} (hm : P.follows .mixedOrders = true) (hnd : noDefer ops = true)
    (h : wpAnyIn Fence.wide 0 P .any ops Q ops.size (Array.replicate ops.size false) a w.drew) : (Code.region id ops true).wpIn (Fence.wide.inRound l) 0 P Q a w :=
  wpIn_region_draw fun t => by
    simp only [Region.schedule, hm, Bool.true_or, if_true]
    exact wpOpsIn_inRound hnd l _ _ _ (wpAnyIn_sound ops.size t _ a _ h)

theorem Keeps.trans_new {X Y : Nat → Prop} {A B C : World} (h : Keeps X A B) (k : Keeps Y B C) (hY : ∀ i, Y i → A.heap.size ≤ i) : Keeps X A C :=
  ⟨k.os.trans h.os, k.tape.trans h.tape, k.output.trans h.output, Nat.le_trans h.size k.size,
   fun i hi hx => (k.block i (Nat.lt_of_lt_of_le hi h.size) (fun e => absurd (hY i e) (by omega))).trans (h.block i hi hx)⟩
theorem Keeps.frozen {X : Nat → Prop} {A B : World} (h : Keeps X A B) {p : Addr} {v : Value} (hc : A.cell? p = some v) (hx : ¬ X p.block) : B.frozen? p = A.frozen? p :=
  World.frozen?_of_block (w := A) (h.block p.block (World.block_lt_of_cell? _ _ hc) hx)

/-- a part is as it must be -/
def goodS (S : Sh) : Bool := goodB S.kind S.n S.L S.H S.m

theorem mem_catN {α : Type} {f : Nat → List α} {x : α} : ∀ {m : Nat}, x ∈ catN f m ↔ ∃ i, i < m ∧ x ∈ f i
  | 0 => by simp [catN]
  | m + 1 => by
    simp only [catN, List.mem_append, mem_catN (m := m)]
    constructor
    · rintro (⟨i, hi, h⟩ | h)
      · exact ⟨i, by omega, h⟩
      · exact ⟨m, by omega, h⟩
    · rintro ⟨i, hi, h⟩
      by_cases e : i = m
      · subst e; exact .inr h
      · exact .inl ⟨i, by omega, h⟩
theorem length_catN {α : Type} (f : Nat → List α) : ∀ m, (catN f m).length = sumN (fun i => (f i).length) m
  | 0 => rfl
  | m + 1 => by simp only [catN, List.length_append, length_catN f m, sumN]
/-- each part of a Rex lies where it must -/
theorem parts_in {B : Nat → Prop} {w : World} {S : Sh} : ∀ {d : Nat} {M : Mx} {x : Part}, In B w S M → x ∈ partsL S d M → In B w x.2.1 x.2.2 := by
  induction S using Sh.ind with
  | h kind n L H m K ih =>
    intro d M x h hx
    obtain ⟨sv, kv, M, rfl⟩ := Mx.cases M
    simp only [partsL_mk, List.mem_cons, mem_catN] at hx
    rcases hx with rfl | ⟨i, hi, hx⟩
    · exact h
    · obtain ⟨a, b, off, cap, a', b', off', cap', e1, hn, hs, hl, e2, hm, hl', hk⟩ := h
      exact ih i hi (hk i hi).2 hx

theorem parts_cnt {S : Sh} : ∀ {d : Nat} {M : Mx} {x : Part}, x ∈ partsL S d M → x.1 + cnt x.2.1 ≤ d + cnt S := by
  induction S using Sh.ind with
  | h kind n L H m K ih =>
    intro d M x hx
    obtain ⟨sv, kv, M, rfl⟩ := Mx.cases M
    simp only [partsL_mk, List.mem_cons, mem_catN] at hx
    rcases hx with rfl | ⟨i, hi, hx⟩
    · exact Nat.le_refl _
    · have h1 := ih i hi hx
      have h2 := sumN_at (f := fun i => cnt (K i)) hi
      simp only [cnt_mk]; omega

theorem form_parts {B : Nat → Prop} {w : World} {S : Sh} : ∀ {d d0 : Nat} {M : Mx}, In B w S M → (formB d0 S = true ↔ ∀ x ∈ partsL S d M, x.1 < d + d0 ∧ goodS x.2.1 = true) := by
  induction S using Sh.ind with
  | h kind n L H m K ih =>
    intro d d0 M h
    obtain ⟨sv, kv, M, rfl⟩ := Mx.cases M
    cases d0 with
    | zero =>
      constructor
      · intro e; simp [formB] at e
      · intro e
        have := (e (d, .mk kind n L H m K, .mk sv kv M) (by simp [partsL_mk])).1
        simp at this
    | succ d0 =>
      obtain ⟨a, b, off, cap, a', b', off', cap', e1, hn, hs, hl, e2, hm, hl', hk⟩ := h
      simp only [formB_mk, Bool.and_eq_true, List.all_eq_true, List.mem_range, partsL_mk, List.mem_cons, mem_catN]
      constructor
      · rintro ⟨hg, hf⟩ x (rfl | ⟨i, hi, hx⟩)
        · exact ⟨by simp, hg⟩
        · have := (ih i hi (d := d + 1) (hk i hi).2).1 (hf i hi) x hx
          exact ⟨by omega, this.2⟩
      · intro e
        refine ⟨(e _ (.inl rfl)).2, fun i hi => (ih i hi (d := d + 1) (hk i hi).2).2 (fun x hx => ?_)⟩
        have := e x (.inr ⟨i, hi, hx⟩)
        exact ⟨by omega, this.2⟩

theorem many_parts {B : Nat → Prop} {w : World} {S : Sh} : ∀ {d d0 : Nat} {M : Mx}, In B w S M → formB d0 S = true → manyN d0 S = (partsL S d M).length := by
  induction S using Sh.ind with
  | h kind n L H m K ih =>
    intro d d0 M h hf
    obtain ⟨sv, kv, M, rfl⟩ := Mx.cases M
    cases d0 with
    | zero => simp [formB] at hf
    | succ d0 =>
      obtain ⟨a, b, off, cap, a', b', off', cap', e1, hn, hs, hl, e2, hm, hl', hk⟩ := h
      simp only [formB_mk, Bool.and_eq_true, List.all_eq_true, List.mem_range] at hf
      simp only [manyN_mk, partsL_mk, List.length_cons, length_catN]
      rw [sumN_congr (fun i hi => ih i hi (d := d + 1) (hk i hi).2 (hf.2 i hi))]
      simp only [Mx.mk_kid]
      omega

theorem okR_parts {B : Nat → Prop} {w : World} {S : Sh} {M : Mx} (h : In B w S M) : okR S = true ↔ (partsL S 0 M).length ≤ 24 ∧ ∀ x ∈ partsL S 0 M, x.1 < 8 ∧ goodS x.2.1 = true := by
  have h1 := form_parts (d := 0) (d0 := 8) h
  simp only [Nat.zero_add] at h1
  simp only [okR, Bool.and_eq_true, decide_eq_true_eq]
  constructor
  · rintro ⟨hf, hm⟩
    rw [many_parts (d := 0) h hf] at hm
    exact ⟨hm, h1.1 hf⟩
  · rintro ⟨hm, hf⟩
    have hf' := h1.2 hf
    exact ⟨hf', by rw [many_parts (d := 0) h hf']; exact hm⟩

end Go.Proofs.YtcpbkkdjaojfiaaGreatDoor

