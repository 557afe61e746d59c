/- what DfaOk asks hangs on the data alone; the walk of the law of DfaOk -/
import Derived.Test.YtplpdikkkbiacaaGreatDoorDh
import Derived.Laws.BitsAllLaws
import Derived.Laws.StructEq
import Derived.Deep.CutRange
import Derived.Deep.RegionHeld
import Derived.Deep.RegionLaw
import Derived.Shelf.Abstract
import Derived.Deep.Cut
namespace Go.Proofs.YtplpdikkkbiacaaGreatDoor
open Go.RowKit
set_option linter.unusedVariables false
set_option linter.unusedSimpArgs false

theorem _root_.Go.World.ownsRow.of_block' {w w' : World} {base : Nat} {e : TypeId} {size g n cap : Nat} {xs : List Value} (h : w.ownsRow base e size (.slice (some ⟨g, 0, none⟩) n cap) n xs) (hb : w'.heap[g]? = w.heap[g]?) : w'.ownsRow base e size (.slice (some ⟨g, 0, none⟩) n cap) n xs := by
  rcases h.2 with ⟨h, _⟩ | ⟨g', cap', cur, e', h1, h2, h3, h4, h5, h6⟩
  · cases h
  · simp only [Value.slice.injEq, Option.some.injEq, Addr.mk.injEq] at e'
    obtain ⟨⟨rfl, _⟩, _, rfl⟩ := e'
    exact ⟨h.1, .inr ⟨g, cap, cur, rfl, h1, hb.trans h2, h3, h4, h5, h6⟩⟩
/-- the row's block -/
def gB (g : Option Addr) : Option Nat := Value.ownBlock (.slice g 0 0)
theorem gB_eq (g : Option Addr) (q c : Nat) : Value.ownBlock (.slice g q c) = gB g := by
  cases g <;> rfl

/-- a box at ob holds a Rex of that kind and set, whose kids lie in an own row -/
structure Ks (w : World) (ob base : Nat) (kind : Int) (sv : Value) (ks : List (Sh × Mx)) (g : Option Addr) (c C : Nat) : Prop where
  box : w.heap[ob]? = some (.cells #[.int .i64 kind, sv, .slice g ks.length c] 50 (0, 0))
  own : w.ownsRow base 50 3 (.slice g ks.length c) ks.length (encK ks)
  kids : ∀ q ∈ ks, In (fun x => (base ≤ x ∧ Soft w x) ∧ gB g ≠ some x) w q.1 q.2
  cnts : sumC ks ≤ ks.length * C
  lo : ob < base

theorem Ks.cells {w : World} {ob base : Nat} {kind : Int} {sv : Value} {ks : List (Sh × Mx)} {g : Option Addr} {c C : Nat} (h : Ks w ob base kind sv ks g c C) : w.cell? ⟨ob, 0, none⟩ = some (.int .i64 kind) ∧ w.cell? ⟨ob, 1, none⟩ = some sv ∧ w.cell? ⟨ob, 2, none⟩ = some (.slice g ks.length c) ∧ ∀ o, w.frozen? ⟨ob, o, none⟩ = false := by
  have h := h.box
  exact ⟨by simp [World.cell?, h], by simp [World.cell?, h], by simp [World.cell?, h], fun o => by simp [World.frozen?, h]⟩
theorem Ks.lt {w : World} {ob base : Nat} {kind : Int} {sv : Value} {ks : List (Sh × Mx)} {g : Option Addr} {c C : Nat} (h : Ks w ob base kind sv ks g c C) : ob < w.heap.size := World.block_lt_of_cell? _ _ h.cells.1
theorem Ks.glt {w : World} {ob base : Nat} {kind : Int} {sv : Value} {ks : List (Sh × Mx)} {g : Option Addr} {c C : Nat} (h : Ks w ob base kind sv ks g c C) : ∀ k, gB g = some k → base ≤ k ∧ k < w.heap.size := fun k hk => h.own.lt k (by rw [gB_eq]; exact hk)

theorem In.soft2 {B : Nat → Prop} {w w' : World} {S : Sh} {M : Mx} (h : In (fun x => Soft w x ∧ B x) w S M) (hk : ∀ k, B k → Soft w k → w'.heap[k]? = w.heap[k]?) : In (fun x => Soft w' x ∧ B x) w' S M :=
  (h.keep (fun k hk' _ => hk k hk'.2 hk'.1)).mono (fun k hk' => ⟨hk'.1.of_block (hk k hk'.2 hk'.1), hk'.2⟩)

/-- nothing of it turns where the reader alone turns -/
theorem Ks.grown {w w' : World} {ob base rb : Nat} {kind : Int} {sv : Value} {ks : List (Sh × Mx)} {g : Option Addr} {c C : Nat} (h : Ks w ob base kind sv ks g c C) (hg : w.grownBy w' (some rb)) (hrb : rb < ob) : Ks w' ob base kind sv ks g c C := by
  have hlo := h.lo
  refine ⟨(hg.block ob h.lt (by simp; omega)).trans h.box, h.own.kept hg ?_, fun q hq => ?_, h.cnts, h.lo⟩
  · rw [gB_eq]
    cases e : gB g with
    | none => exact .inl rfl
    | some k =>
      have := h.glt k e
      exact .inr (by simp; omega)
  · refine ((h.kids q hq).mono (B' := fun x => Soft w x ∧ (base ≤ x ∧ gB g ≠ some x)) (fun x hx => ⟨hx.1.2, hx.1.1, hx.2⟩)).soft2 (fun k hk hs => hg.block k hs.lt (by simp; omega)) |>.mono (fun x hx => ⟨⟨hx.2.1, hx.1⟩, hx.2.2⟩)
theorem Ks.below {w w' : World} {ob base : Nat} {kind : Int} {sv : Value} {ks : List (Sh × Mx)} {g : Option Addr} {c C : Nat} (h : Ks w ob base kind sv ks g c C) (hb : Below w.heap.size w w') : Ks w' ob base kind sv ks g c C := by
  refine ⟨(hb.block ob h.lt).trans h.box, h.own.kept (row := none) (grown_of_below hb) (by cases e : Value.ownBlock (.slice g ks.length c) <;> simp), fun q hq => ?_, h.cnts, h.lo⟩
  exact ((h.kids q hq).mono (B' := fun x => Soft w x ∧ (base ≤ x ∧ gB g ≠ some x)) (fun x hx => ⟨hx.1.2, hx.1.1, hx.2⟩)).soft2 (fun k hk hs => hb.block k hs.lt) |>.mono (fun x hx => ⟨⟨hx.2.1, hx.1⟩, hx.2.2⟩)

/-- one kid more: what append did, and the store of its answer -/
theorem Ks.push {w w7 : World} {ob base : Nat} {kind : Int} {sv : Value} {ks : List (Sh × Mx)} {g : Option Addr} {c C : Nat} (h : Ks w ob base kind sv ks g c C) {S : Sh} {M : Mx} (hin : In (fun x => (base ≤ x ∧ Soft w x) ∧ gB g ≠ some x) w S M) (hc : cnt S ≤ C)
    {g' c' : Nat} (hown : w7.ownsRow base 50 3 (.slice (some ⟨g', 0, none⟩) (ks.length + 1) c') (ks.length + 1) (encK ks ++ [.int .i64 S.kind, M.sv, M.kv])) (hgr : w.grownBy w7 (Value.ownBlock (.slice g ks.length c))) (hloc : some g' = Value.ownBlock (.slice g ks.length c) ∨ g' = w.heap.size) :
    Ks (w7.setCell ⟨ob, 2, none⟩ (.slice (some ⟨g', 0, none⟩) (ks.length + 1) c')) ob base kind sv (ks ++ [(S, M)]) (some ⟨g', 0, none⟩) c' C := by
  rw [gB_eq] at hgr hloc
  have hlo := h.lo
  have hob : w7.heap[ob]? = w.heap[ob]? := hgr.block ob h.lt (fun e => by have := h.glt ob e.symm; omega)
  have hl : (ks ++ [(S, M)]).length = ks.length + 1 := by simp
  have hg7 : base ≤ g' ∧ g' < w7.heap.size := hown.lt g' rfl
  have hgne : ∀ x, gB g ≠ some x → x < w.heap.size → g' ≠ x := fun x hx hlt e => by
    subst e
    rcases hloc with hloc | hloc
    · exact hx hloc.symm
    · omega
  have keep : ∀ k, ((base ≤ k ∧ Soft w k) ∧ gB g ≠ some k) → (w7.setCell ⟨ob, 2, none⟩ (.slice (some ⟨g', 0, none⟩) (ks.length + 1) c')).heap[k]? = w.heap[k]? := fun k hk =>
    (Below.heap_setCell _ _ _ _ (by simp; omega)).trans (hgr.block k hk.1.2.lt (fun e => hk.2 e.symm))
  have kin : ∀ {S : Sh} {M : Mx}, In (fun x => (base ≤ x ∧ Soft w x) ∧ gB g ≠ some x) w S M → In (fun x => (base ≤ x ∧ Soft (w7.setCell ⟨ob, 2, none⟩ (.slice (some ⟨g', 0, none⟩) (ks.length + 1) c')) x) ∧ gB (some ⟨g', 0, none⟩) ≠ some x) (w7.setCell ⟨ob, 2, none⟩ (.slice (some ⟨g', 0, none⟩) (ks.length + 1) c')) S M := fun hi =>
    (hi.keep (fun k hk _ => keep k hk)).mono (fun k hk => ⟨⟨hk.1.1, hk.1.2.of_block (keep k hk)⟩, fun e => hgne k hk.2 hk.1.2.lt (Option.some.inj e)⟩)
  refine ⟨?_, ?_, fun q hq => ?_, ?_, h.lo⟩
  · rw [hl]
    simp [World.setCell, Array.getElem?_modify, hob, h.box]
  · rw [hl, encK_append, encK_one]
    have := hown.of_block' (w' := w7.setCell ⟨ob, 2, none⟩ (.slice (some ⟨g', 0, none⟩) (ks.length + 1) c')) (Below.heap_setCell _ _ _ _ (by simp; omega))
    exact this
  · rcases List.mem_append.1 hq with hq | hq
    · exact kin (h.kids q hq)
    · rw [List.mem_singleton.1 hq]; exact kin hin
  · rw [sumC_append, hl]
    have := h.cnts
    simp only [sumC]
    rw [Nat.succ_mul]
    omega
end Go.Proofs.YtplpdikkkbiacaaGreatDoor
namespace Go.Proofs.YtplpdikkkbiacaaGreatDoor
open Go.RowKit
set_option linter.unusedVariables false
set_option linter.unusedSimpArgs false

/-- the first byte of the last of the first k, or -1 -/
def LastR (N : Nest) (k : Nat) (r : Int) : Prop := (k = 0 ∧ r = -1) ∨ (0 < k ∧ FirstB (Sb N (k - 1)) r)
theorem LastR.bd {N : Nest} {k : Nat} {r : Int} (h : LastR N k r) : -1 ≤ r ∧ r < 256 := by
  rcases h with ⟨_, rfl⟩ | ⟨_, h⟩
  · omega
  · exact h.bd
end Go.Proofs.YtplpdikkkbiacaaGreatDoor
namespace Go.Proofs.YtplpdikkkbiacaaGreatDoor
open Go.RowKit
set_option linter.unusedVariables false
set_option linter.unusedSimpArgs false

/-- all n numbers are from lo to hi -/
def Within (n : Nat) (G : Nat → Int) (lo hi : Int) : Prop := ∀ i, i < n → lo ≤ G i ∧ G i ≤ hi

end Go.Proofs.YtplpdikkkbiacaaGreatDoor
namespace Go.Proofs.YtplpdikkkbiacaaGreatDoor
open Go.RowKit
set_option linter.unusedVariables false
set_option linter.unusedSimpArgs false

/-- the rows are such of so many parts -/
def RowsG (n : Nat) (N : Nsi) (m : Nat) : Prop := 1 ≤ n ∧ n ≤ 40 ∧ ∀ s, s < n → N.n s = m ∧ Within (N.n s) (N.G s) (-1) (n - 1)
/-- the machine is one -/
def DOk (D : Dx) : Prop := PartsGood D.pn D.P ∧ RowsG D.rn D.R D.pn ∧ (D.an = D.rn ∧ Within D.an D.A (-1) 4)

end Go.Proofs.YtplpdikkkbiacaaGreatDoor
namespace Go.Proofs.YtplpdikkkbiacaaGreatDoor
open Go.RowKit
set_option linter.unusedVariables false
set_option linter.unusedSimpArgs false

/-- row s is as it must be -/
def RowAt (D : Dx) (s : Nat) : Prop := D.R.n s = D.pn ∧ Within (D.R.n s) (D.R.G s) (-1) (D.rn - 1) ∧ (-1 ≤ D.A s ∧ D.A s ≤ 4)
theorem DOk.at {D : Dx} (h : DOk D) {s : Nat} (hs : s < D.rn) : RowAt D s := ⟨(h.2.1.2.2 s hs).1, (h.2.1.2.2 s hs).2, h.2.2.2 s (by rw [h.2.2.1]; exact hs)⟩

end Go.Proofs.YtplpdikkkbiacaaGreatDoor
namespace Go.Proofs.YtplpdikkkbiacaaGreatDoor
open Go.RowKit
set_option linter.unusedVariables false
set_option linter.unusedSimpArgs false

/-- the machine's three lists lie in a box -/
def Bx (w : World) (b : Nat) (D : Dx) : Prop := w.cell? ⟨b, 0, none⟩ = some (.slice D.pa D.pn D.pc) ∧ w.cell? ⟨b, 1, none⟩ = some (.slice D.ra D.rn D.rc) ∧ w.cell? ⟨b, 2, none⟩ = some (.slice D.aa D.an D.ac)
theorem Bx.below {w w' : World} {b : Nat} {D : Dx} (h : Bx w b D) (hb : Below w.heap.size w w') : Bx w' b D :=
  ⟨(hb.cell (p := ⟨_, _, none⟩) (World.block_lt_of_cell? _ _ h.1)).trans h.1, (hb.cell (p := ⟨_, _, none⟩) (World.block_lt_of_cell? _ _ h.2.1)).trans h.2.1, (hb.cell (p := ⟨_, _, none⟩) (World.block_lt_of_cell? _ _ h.2.2)).trans h.2.2⟩

end Go.Proofs.YtplpdikkkbiacaaGreatDoor
namespace Go.Proofs.YtplpdikkkbiacaaGreatDoor
open Go.RowKit
set_option linter.unusedVariables false
set_option linter.unusedSimpArgs false

theorem hs_eq {n n' : Nat} {L H L' H' : Nat → Int} (e : n = n') (h : ∀ j, j < n → L j = L' j ∧ H j = H' j) : hs n L H = hs n' L' H' := by
  subst e
  funext x
  rw [hs, hs, Bool.eq_iff_iff, hasB_iff, hasB_iff]
  exact ⟨fun ⟨i, h1, h2⟩ => ⟨i, h1, by rw [← (h i h1).1, ← (h i h1).2]; exact h2⟩, fun ⟨i, h1, h2⟩ => ⟨i, h1, by rw [(h i h1).1, (h i h1).2]; exact h2⟩⟩
theorem okB_eq {n n' : Nat} {L H L' H' : Nat → Int} (e : n = n') (h : ∀ j, j < n → L j = L' j ∧ H j = H' j) : okB n L H = okB n' L' H' := by
  subst e
  rw [Bool.eq_iff_iff, okB_iff, okB_iff]
  have key : ∀ (L H L' H' : Nat → Int), (∀ j, j < n → L j = L' j ∧ H j = H' j) → (∀ k, k < n → OkAt L H k) → ∀ k, k < n → OkAt L' H' k := by
    intro L H L' H' h g k hk
    have := g k hk
    unfold OkAt at *
    rw [← (h k hk).1, ← (h k hk).2]
    refine ⟨this.1, this.2.1, this.2.2.1, fun h0 => ?_⟩
    rw [← (h (k - 1) (by omega)).2]
    exact this.2.2.2 h0
  exact ⟨key L H L' H' h, key L' H' L H fun j hj => ⟨(h j hj).1.symm, (h j hj).2.symm⟩⟩
theorem PartsGood.congr {n m : Nat} {N N' : Nest} (e : PEq n N m N') (h : PartsGood n N) : PartsGood m N' := by
  obtain ⟨rfl, e⟩ := e
  have hS : ∀ i, i < n → Sb N' i = Sb N i := fun i hi => (hs_eq (e i hi).1 (e i hi).2).symm
  have hO : ∀ i, i < n → okB (N'.n i) (N'.L i) (N'.H i) = okB (N.n i) (N.L i) (N.H i) := fun i hi => (okB_eq (e i hi).1 (e i hi).2).symm
  have hU : ∀ k, k ≤ n → uni N' k = uni N k := by
    intro k hk
    induction k with
    | zero => rfl
    | succ k ih =>
      funext x
      simp only [uni]
      rw [ih (by omega), hS k (by omega)]
  refine ⟨fun i hi => ?_, fun x hx => by rw [hU n (Nat.le_refl _)]; exact h.2 x hx⟩
  have g := h.1 i hi
  refine ⟨by rw [hO i hi]; exact g.ok, by rw [hS i hi]; exact g.ne, fun h0 => ?_, fun j hj => ?_⟩
  · rw [hS i hi, hS (i - 1) (by omega)]; exact g.ord h0
  · rw [hS i hi, hS j (by omega)]; exact g.dis j hj
theorem DOk.congr {D D' : Dx} (e : DEq D D') (h : DOk D) : DOk D' := by
  obtain ⟨e1, ⟨e2, f2⟩, ⟨e3, f3⟩⟩ := e
  obtain ⟨h1, ⟨h2, h3, h4⟩, ⟨h5, h6⟩⟩ := h
  refine ⟨h1.congr e1, ⟨by omega, by omega, fun s hs => ?_⟩, ⟨by omega, fun s hs => ?_⟩⟩
  · obtain ⟨g1, g2⟩ := h4 s (by omega)
    obtain ⟨k1, k2⟩ := f2 s (by omega)
    refine ⟨by rw [← k1, ← e1.1]; exact g1, fun j hj => ?_⟩
    have := g2 j (by omega)
    rw [k2 j (by omega)] at this
    rw [← e2]
    exact this
  · rw [← f3 s (by omega)]
    exact h6 s (by omega)
end Go.Proofs.YtplpdikkkbiacaaGreatDoor

