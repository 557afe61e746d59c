/- A Rex whose kids are being put together: what lies where, and its steps; no Go text is walked here. -/
import Derived.Test.YtkbhljpdneibaaaDoorDh
namespace Go.Proofs.YtkbhljpdneibaaaDoor
open Go.RowKit
set_option linter.unusedVariables false
set_option linter.unusedSimpArgs false

theorem _root_.Go.World.ownsRow.of_block' {w w' : World} {base : Nat} {e : TypeId} {size g n cap : Nat} {xs : List Value} (h : w.ownsRow base e size (.slice (some ⟨g, 0, none⟩) n cap) n xs) (hb : w'.heap[g]? = w.heap[g]?) : w'.ownsRow base e size (.slice (some ⟨g, 0, none⟩) n cap) n xs := by
  rcases h.2 with ⟨h, _⟩ | ⟨g', cap', cur, e', h1, h2, h3, h4, h5, h6⟩
  · cases h
  · simp only [Value.slice.injEq, Option.some.injEq, Addr.mk.injEq] at e'
    obtain ⟨⟨rfl, _⟩, _, rfl⟩ := e'
    exact ⟨h.1, .inr ⟨g, cap, cur, rfl, h1, hb.trans h2, h3, h4, h5, h6⟩⟩
/-- the row's block -/
def gB (g : Option Addr) : Option Nat := Value.ownBlock (.slice g 0 0)
theorem gB_eq (g : Option Addr) (q c : Nat) : Value.ownBlock (.slice g q c) = gB g := by
  cases g <;> rfl

/-- a box at ob holds a Rex of that kind and set, whose kids lie in an own row -/
structure Ks (w : World) (ob base : Nat) (kind : Int) (sv : Value) (ks : List (Sh × Mx)) (g : Option Addr) (c C : Nat) : Prop where
  box : w.heap[ob]? = some (.cells #[.int .i64 kind, sv, .slice g ks.length c] 26 (0, 0))
  own : w.ownsRow base 26 3 (.slice g ks.length c) ks.length (encK ks)
  kids : ∀ q ∈ ks, In (fun x => (base ≤ x ∧ Soft w x) ∧ gB g ≠ some x) w q.1 q.2
  cnts : sumC ks ≤ ks.length * C
  lo : ob < base

theorem Ks.cells {w : World} {ob base : Nat} {kind : Int} {sv : Value} {ks : List (Sh × Mx)} {g : Option Addr} {c C : Nat} (h : Ks w ob base kind sv ks g c C) : w.cell? ⟨ob, 0, none⟩ = some (.int .i64 kind) ∧ w.cell? ⟨ob, 1, none⟩ = some sv ∧ w.cell? ⟨ob, 2, none⟩ = some (.slice g ks.length c) ∧ ∀ o, w.frozen? ⟨ob, o, none⟩ = false := by
  have h := h.box
  exact ⟨by simp [World.cell?, h], by simp [World.cell?, h], by simp [World.cell?, h], fun o => by simp [World.frozen?, h]⟩
theorem Ks.lt {w : World} {ob base : Nat} {kind : Int} {sv : Value} {ks : List (Sh × Mx)} {g : Option Addr} {c C : Nat} (h : Ks w ob base kind sv ks g c C) : ob < w.heap.size := World.block_lt_of_cell? _ _ h.cells.1
theorem Ks.glt {w : World} {ob base : Nat} {kind : Int} {sv : Value} {ks : List (Sh × Mx)} {g : Option Addr} {c C : Nat} (h : Ks w ob base kind sv ks g c C) : ∀ k, gB g = some k → base ≤ k ∧ k < w.heap.size := fun k hk => h.own.lt k (by rw [gB_eq]; exact hk)

theorem In.soft2 {B : Nat → Prop} {w w' : World} {S : Sh} {M : Mx} (h : In (fun x => Soft w x ∧ B x) w S M) (hk : ∀ k, B k → Soft w k → w'.heap[k]? = w.heap[k]?) : In (fun x => Soft w' x ∧ B x) w' S M :=
  (h.keep (fun k hk' _ => hk k hk'.2 hk'.1)).mono (fun k hk' => ⟨hk'.1.of_block (hk k hk'.2 hk'.1), hk'.2⟩)

/-- nothing of it turns where the reader alone turns -/
theorem Ks.grown {w w' : World} {ob base rb : Nat} {kind : Int} {sv : Value} {ks : List (Sh × Mx)} {g : Option Addr} {c C : Nat} (h : Ks w ob base kind sv ks g c C) (hg : w.grownBy w' (some rb)) (hrb : rb < ob) : Ks w' ob base kind sv ks g c C := by
  have hlo := h.lo
  refine ⟨(hg.block ob h.lt (by simp; omega)).trans h.box, h.own.kept hg ?_, fun q hq => ?_, h.cnts, h.lo⟩
  · rw [gB_eq]
    cases e : gB g with
    | none => exact .inl rfl
    | some k =>
      have := h.glt k e
      exact .inr (by simp; omega)
  · refine ((h.kids q hq).mono (B' := fun x => Soft w x ∧ (base ≤ x ∧ gB g ≠ some x)) (fun x hx => ⟨hx.1.2, hx.1.1, hx.2⟩)).soft2 (fun k hk hs => hg.block k hs.lt (by simp; omega)) |>.mono (fun x hx => ⟨⟨hx.2.1, hx.1⟩, hx.2.2⟩)
theorem Ks.below {w w' : World} {ob base : Nat} {kind : Int} {sv : Value} {ks : List (Sh × Mx)} {g : Option Addr} {c C : Nat} (h : Ks w ob base kind sv ks g c C) (hb : Below w.heap.size w w') : Ks w' ob base kind sv ks g c C := by
  refine ⟨(hb.block ob h.lt).trans h.box, h.own.kept (row := none) (grown_of_below hb) (by cases e : Value.ownBlock (.slice g ks.length c) <;> simp), fun q hq => ?_, h.cnts, h.lo⟩
  exact ((h.kids q hq).mono (B' := fun x => Soft w x ∧ (base ≤ x ∧ gB g ≠ some x)) (fun x hx => ⟨hx.1.2, hx.1.1, hx.2⟩)).soft2 (fun k hk hs => hb.block k hs.lt) |>.mono (fun x hx => ⟨⟨hx.2.1, hx.1⟩, hx.2.2⟩)

/-- one kid more: what append did, and the store of its answer -/
theorem Ks.push {w w7 : World} {ob base : Nat} {kind : Int} {sv : Value} {ks : List (Sh × Mx)} {g : Option Addr} {c C : Nat} (h : Ks w ob base kind sv ks g c C) {S : Sh} {M : Mx} (hin : In (fun x => (base ≤ x ∧ Soft w x) ∧ gB g ≠ some x) w S M) (hc : cnt S ≤ C)
    {g' c' : Nat} (hown : w7.ownsRow base 26 3 (.slice (some ⟨g', 0, none⟩) (ks.length + 1) c') (ks.length + 1) (encK ks ++ [.int .i64 S.kind, M.sv, M.kv])) (hgr : w.grownBy w7 (Value.ownBlock (.slice g ks.length c))) (hloc : some g' = Value.ownBlock (.slice g ks.length c) ∨ g' = w.heap.size) :
    Ks (w7.setCell ⟨ob, 2, none⟩ (.slice (some ⟨g', 0, none⟩) (ks.length + 1) c')) ob base kind sv (ks ++ [(S, M)]) (some ⟨g', 0, none⟩) c' C := by
  rw [gB_eq] at hgr hloc
  have hlo := h.lo
  have hob : w7.heap[ob]? = w.heap[ob]? := hgr.block ob h.lt (fun e => by have := h.glt ob e.symm; omega)
  have hl : (ks ++ [(S, M)]).length = ks.length + 1 := by simp
  have hg7 : base ≤ g' ∧ g' < w7.heap.size := hown.lt g' rfl
  have hgne : ∀ x, gB g ≠ some x → x < w.heap.size → g' ≠ x := fun x hx hlt e => by
    subst e
    rcases hloc with hloc | hloc
    · exact hx hloc.symm
    · omega
  have keep : ∀ k, ((base ≤ k ∧ Soft w k) ∧ gB g ≠ some k) → (w7.setCell ⟨ob, 2, none⟩ (.slice (some ⟨g', 0, none⟩) (ks.length + 1) c')).heap[k]? = w.heap[k]? := fun k hk =>
    (Below.heap_setCell _ _ _ _ (by simp; omega)).trans (hgr.block k hk.1.2.lt (fun e => hk.2 e.symm))
  have kin : ∀ {S : Sh} {M : Mx}, In (fun x => (base ≤ x ∧ Soft w x) ∧ gB g ≠ some x) w S M → In (fun x => (base ≤ x ∧ Soft (w7.setCell ⟨ob, 2, none⟩ (.slice (some ⟨g', 0, none⟩) (ks.length + 1) c')) x) ∧ gB (some ⟨g', 0, none⟩) ≠ some x) (w7.setCell ⟨ob, 2, none⟩ (.slice (some ⟨g', 0, none⟩) (ks.length + 1) c')) S M := fun hi =>
    (hi.keep (fun k hk _ => keep k hk)).mono (fun k hk => ⟨⟨hk.1.1, hk.1.2.of_block (keep k hk)⟩, fun e => hgne k hk.2 hk.1.2.lt (Option.some.inj e)⟩)
  refine ⟨?_, ?_, fun q hq => ?_, ?_, h.lo⟩
  · rw [hl]
    simp [World.setCell, Array.getElem?_modify, hob, h.box]
  · rw [hl, encK_append, encK_one]
    have := hown.of_block' (w' := w7.setCell ⟨ob, 2, none⟩ (.slice (some ⟨g', 0, none⟩) (ks.length + 1) c')) (Below.heap_setCell _ _ _ _ (by simp; omega))
    exact this
  · rcases List.mem_append.1 hq with hq | hq
    · exact kin (h.kids q hq)
    · rw [List.mem_singleton.1 hq]; exact kin hin
  · rw [sumC_append, hl]
    have := h.cnts
    simp only [sumC]
    rw [Nat.succ_mul]
    omega
end Go.Proofs.YtkbhljpdneibaaaDoor

