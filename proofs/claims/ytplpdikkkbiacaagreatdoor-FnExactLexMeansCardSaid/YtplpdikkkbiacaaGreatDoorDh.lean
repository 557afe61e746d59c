/- A list of kids as an own row; the walks of l2Kids and l2Rex. -/
import Derived.Test.YtplpdikkkbiacaaGreatDoorRows
import Derived.WalkKit
import Derived.Test.YtplpdikkkbiacaaGreatDoorMa
import Derived.RegionTactic
import Derived.ChangeAlike
import Derived.BigRegion
import Derived.Test.YtplpdikkkbiacaaGreatDoorWc
import Derived.Laws.BitsAllLaws
import Derived.Test.YtplpdikkkbiacaaGreatDoorTb
import Derived.Deep.LoopGhost
import Derived.Deep.Cut
import Derived.Deep.RegionHeld
import Derived.Maps.AppendAt
import Derived.Deep.AppendLies
import Derived.Laws.OwnMore
import Derived.Test.YtplpdikkkbiacaaGreatDoorJa
import Derived.Test.YtplpdikkkbiacaaGreatDoorTc
import Derived.Laws.StructEq
import Derived.Test.YtplpdikkkbiacaaGreatDoorTe
import Derived.Deep.CutRange
import Derived.Deep.RegionLaw
namespace Go.Proofs.YtplpdikkkbiacaaGreatDoor

/-- the number whose bits below n are B -/
def wdb (B : Nat → Bool) : Nat → Nat
  | 0 => 0
  | n + 1 => wdb B n ||| (if B n then 2 ^ n else 0)

/-- word i of a set of bytes -/
def W (B : Nat → Bool) (i : Nat) : Nat := wdb (fun j => B (64 * i + j)) 64

end Go.Proofs.YtplpdikkkbiacaaGreatDoor
namespace Go.Proofs.YtplpdikkkbiacaaGreatDoor
open Go.RowKit
set_option linter.unusedVariables false
set_option linter.unusedSimpArgs false

/-- the bytes of the first k spans -/
def hs (k : Nat) (L H : Nat → Int) (x : Nat) : Bool := hasB k L H (x : Int)
/-- and those of the next one below b -/
def hs' (k : Nat) (L H : Nat → Int) (b : Int) (x : Nat) : Bool := hasB k L H (x : Int) || decide (L k ≤ (x : Int) ∧ (x : Int) < b)
/-- the cells of a set of bytes -/
abbrev wc (B : Nat → Bool) (i : Nat) : Value := .int .u64 ((W B i : Nat) : Int)

end Go.Proofs.YtplpdikkkbiacaaGreatDoor
namespace Go.Proofs.YtplpdikkkbiacaaGreatDoor

/-- the table -/
def dB : List Nat := [0, 1, 56, 2, 57, 49, 28, 3, 61, 58, 42, 50, 38, 29, 17, 4, 62, 47, 59, 36, 45, 43, 51, 22, 53, 39, 33, 30, 24, 18, 12, 5, 63, 55, 48, 27, 60, 41, 37, 16, 46, 35, 44, 21, 52, 32, 23, 11, 54, 26, 40, 15, 34, 20, 31, 10, 25, 14, 19, 9, 13, 8, 7, 6]
/-- r is the first byte of B, or -1 -/
def FirstB (B : Nat → Bool) (r : Int) : Prop := (r = -1 ∧ ∀ x, x < 256 → B x = false) ∨ ∃ x : Nat, x < 256 ∧ r = (x : Int) ∧ B x = true ∧ ∀ y, y < x → B y = false
theorem FirstB.unique {B : Nat → Bool} {r r' : Int} (h : FirstB B r) (h' : FirstB B r') : r = r' := by
  rcases h with ⟨rfl, h⟩ | ⟨x, hx, rfl, h1, h2⟩
  · rcases h' with ⟨rfl, _⟩ | ⟨x', hx', rfl, h1', _⟩
    · rfl
    · rw [h x' hx'] at h1'; cases h1'
  · rcases h' with ⟨rfl, h'⟩ | ⟨x', hx', rfl, h1', h2'⟩
    · rw [h' x hx] at h1; cases h1
    · by_cases e : x < x'
      · rw [h2' x e] at h1; cases h1
      · by_cases e' : x' < x
        · rw [h2 x' e'] at h1'; cases h1'
        · have : x = x' := by omega
          rw [this]
end Go.Proofs.YtplpdikkkbiacaaGreatDoor
namespace Go.Proofs.YtplpdikkkbiacaaGreatDoor
open Go.RowKit
set_option linter.unusedVariables false
set_option linter.unusedSimpArgs false

/-- the library's table lies where it must -/
def TabZ (w : World) : Prop := ∀ i, i < 64 → w.cell? ⟨0, i, none⟩ = some (.int .u8 ((dB.getD i 0 : Nat) : Int))
theorem TabZ.below {w w' : World} (h : TabZ w) (hb : Below w.heap.size w w') : TabZ w' := fun i hi =>
  (hb.cell (p := ⟨0, i, none⟩) (World.block_lt_of_cell? _ _ (h i hi))).trans (h i hi)

end Go.Proofs.YtplpdikkkbiacaaGreatDoor
namespace Go.Proofs.YtplpdikkkbiacaaGreatDoor
open Go.RowKit
set_option linter.unusedVariables false
set_option linter.unusedSimpArgs false

/-- what turns while something is drawn: the reader, and new memory -/
theorem grown_of_below {w w' : World} {row : Option Nat} (hb : Below w.heap.size w w') : w.grownBy w' row := ⟨hb.os, hb.tape, hb.output, hb.size, fun k hk _ => hb.block k hk⟩

end Go.Proofs.YtplpdikkkbiacaaGreatDoor
namespace Go.Proofs.YtplpdikkkbiacaaGreatDoor
open Go.RowKit
set_option linter.unusedVariables false
set_option linter.unusedSimpArgs false

theorem below_new (w : World) (o : Obj) : Below w.heap.size w (w.alloc o) := (Below.refl _ _).alloc (Nat.le_refl _) _
end Go.Proofs.YtplpdikkkbiacaaGreatDoor
namespace Go.Proofs.YtplpdikkkbiacaaGreatDoor
open Go.RowKit
set_option linter.unusedVariables false
set_option linter.unusedSimpArgs false

/-- the cells of runs -/
def cellsR (R : List (Nat × Nat)) : List Value := R.flatMap fun p => [.int .i64 (p.1 : Int), .int .i64 (p.2 : Int)]
end Go.Proofs.YtplpdikkkbiacaaGreatDoor
namespace Go.Proofs.YtplpdikkkbiacaaGreatDoor
open Go.RowKit
set_option linter.unusedVariables false
set_option linter.unusedSimpArgs false

/-- the bytes of set i -/
def Sb (N : Nest) (i : Nat) : Nat → Bool := hs (N.n i) (N.L i) (N.H i)
/-- no byte is in both -/
def Dis (A B : Nat → Bool) : Prop := ∀ x, x < 256 → ¬ (A x = true ∧ B x = true)
/-- set k is as it must be, behind those ahead of it -/
structure PAt (N : Nest) (k : Nat) : Prop where
  ok : okB (N.n k) (N.L k) (N.H k) = true
  ne : ∃ x, x < 256 ∧ Sb N k x = true
  ord : 0 < k → ∀ r r', FirstB (Sb N (k - 1)) r → FirstB (Sb N k) r' → r < r'
  dis : ∀ j, j < k → Dis (Sb N k) (Sb N j)
/-- the first k are -/
def PUpto (N : Nest) (k : Nat) : Prop := ∀ i, i < k → PAt N i
/-- the bytes of the first k -/
def uni (N : Nest) : Nat → Nat → Bool
  | 0 => fun _ => false
  | k + 1 => fun x => uni N k x || Sb N k x
/-- they are parts of all bytes -/
def PartsGood (n : Nat) (N : Nest) : Prop := PUpto N n ∧ ∀ x, x < 256 → uni N n x = true
theorem PUpto.snoc {N : Nest} {k : Nat} (h : PUpto N k) (h1 : PAt N k) : PUpto N (k + 1) := fun i hi => by
  by_cases e : i = k
  · subst e; exact h1
  · exact h i (by omega)

theorem FirstB.bd {B : Nat → Bool} {r : Int} (h : FirstB B r) : -1 ≤ r ∧ r < 256 := by
  rcases h with ⟨h, _⟩ | ⟨x, h1, h2, _⟩ <;> omega
theorem FirstB.ne {B : Nat → Bool} {r : Int} (h : FirstB B r) (h0 : -1 < r) : ∃ x, x < 256 ∧ B x = true := by
  rcases h with ⟨h, _⟩ | ⟨x, h1, h2, h3, _⟩
  · omega
  · exact ⟨x, h1, h3⟩
theorem FirstB.pos {B : Nat → Bool} {r : Int} (h : FirstB B r) (hn : ∃ x, x < 256 ∧ B x = true) : 0 ≤ r := by
  obtain ⟨y, h1, h2⟩ := hn
  rcases h with ⟨h, h3⟩ | ⟨x, h3, h4, _⟩
  · rw [h3 y h1] at h2; cases h2
  · omega

end Go.Proofs.YtplpdikkkbiacaaGreatDoor
namespace Go.Proofs.YtplpdikkkbiacaaGreatDoor
open Go.RowKit
set_option linter.unusedVariables false
set_option linter.unusedSimpArgs false

/-- a list of sets of one's own: the outer row in block B, set i in block G i -/
def Copy (w : World) (B n : Nat) (N : Nest) (G : Nat → Nat) : Prop :=
  w.rowIs B 47 n (fun i => .slice (some ⟨G i, 0, none⟩) (N.n i) (N.n i)) ∧ ∀ i, i < n → B < G i ∧ w.rowIs (G i) 76 (N.n i * 2) (flat (N.L i) (N.H i)) ∧ ∀ j, j < i → G j < G i
theorem Copy.keep {w w' : World} {B n : Nat} {N : Nest} {G : Nat → Nat} (h : Copy w B n N G) (e : ∀ x, B ≤ x → x < w.heap.size → w'.heap[x]? = w.heap[x]?) : Copy w' B n N G :=
  ⟨h.1.of_block (e _ (Nat.le_refl _) h.1.lt), fun i hi => ⟨(h.2 i hi).1, (h.2 i hi).2.1.of_block (e _ (Nat.le_of_lt (h.2 i hi).1) (h.2 i hi).2.1.lt), (h.2 i hi).2.2⟩⟩
end Go.Proofs.YtplpdikkkbiacaaGreatDoor
namespace Go.Proofs.YtplpdikkkbiacaaGreatDoor
open Go.RowKit
set_option linter.unusedVariables false
set_option linter.unusedSimpArgs false

/-- what is told says whether P -/
def IsB (P : Prop) (w : World) (e : Ending) (w' : World) : Prop := ∃ b : Bool, e = .returned (.bool b) ∧ (b = true ↔ P) ∧ Below w.heap.size w w'
theorem IsB.no {P : Prop} {w w' : World} (h : ¬ P) (hb : Below w.heap.size w w') : IsB P w (.returned (.bool false)) w' := ⟨false, rfl, ⟨fun e => (by cases e), fun e => absurd e h⟩, hb⟩
theorem IsB.yes {P : Prop} {w w' : World} (h : P) (hb : Below w.heap.size w w') : IsB P w (.returned (.bool true)) w' := ⟨true, rfl, ⟨fun _ => h, fun _ => rfl⟩, hb⟩
end Go.Proofs.YtplpdikkkbiacaaGreatDoor
namespace Go.Proofs.YtplpdikkkbiacaaGreatDoor
open Go.RowKit
set_option linter.unusedVariables false
set_option linter.unusedSimpArgs false

/-- the set at i, as an argument -/
abbrev sl (N : Nest) (i : Nat) : Value := .slice (N.a i) (N.n i) (N.cap i)

end Go.Proofs.YtplpdikkkbiacaaGreatDoor
namespace Go.Proofs.YtplpdikkkbiacaaGreatDoor
open Go.RowKit
set_option linter.unusedVariables false
set_option linter.unusedSimpArgs false

/-- a set of n spans lies in memory -/
def SetIn (B : Nat → Prop) (w : World) (v : Value) (n : Nat) (L H : Nat → Int) : Prop := ∃ (a : Option Addr) (b off cap : Nat), v = .slice a n cap ∧ (0 < n → a = some ⟨b, off, none⟩ ∧ B b) ∧ Sp w b off n L H
theorem SetIn.of_row {w w' : World} {base : Nat} {v : Value} {R : List (Nat × Nat)} (h : w'.ownsRow base 76 2 v R.length (cellsR R)) : ∃ L H, SetIn (fun k => base ≤ k ∧ Soft w' k) w' v R.length L H := by
  rcases h.2 with ⟨rfl, h0⟩ | ⟨g, cap, cur, rfl, h1, h2, h3, h4, h5, h6⟩
  · exact ⟨fun _ => 0, fun _ => 0, none, 0, 0, 0, by rw [h0], fun hh => by omega, fun i hi => by omega⟩
  · refine ⟨fun i => ((R[i]?).getD (0, 0)).1, fun i => ((R[i]?).getD (0, 0)).2, some ⟨g, 0, none⟩, g, 0, cap, rfl, fun _ => ⟨rfl, h1, cur, 76, h2⟩, fun i hi => ?_⟩
    have hc : ∀ (R : List (Nat × Nat)) (i : Nat), i < R.length → (cellsR R)[i * 2]? = some (.int .i64 ((((R[i]?).getD (0, 0)).1 : Nat) : Int)) ∧ (cellsR R)[i * 2 + 1]? = some (.int .i64 ((((R[i]?).getD (0, 0)).2 : Nat) : Int)) := by
      intro R
      induction R with
      | nil => intro i hi; simp at hi
      | cons x R ih =>
        intro i hi
        have e : cellsR (x :: R) = .int .i64 (x.1 : Int) :: .int .i64 (x.2 : Int) :: cellsR R := rfl
        cases i with
        | zero => rw [e]; exact ⟨rfl, rfl⟩
        | succ i =>
          have := ih i (by simpa using hi)
          rw [e, show (i + 1) * 2 = i * 2 + 2 by omega, show i * 2 + 2 + 1 = (i * 2 + 1) + 2 by omega]
          simpa using this
    have a1 := World.ownsRow.cellAt h (i * 2) (by omega)
    have a2 := World.ownsRow.cellAt h (i * 2 + 1) (by omega)
    rw [(hc R i hi).1] at a1
    rw [(hc R i hi).2] at a2
    exact ⟨by simpa using a1, by simpa using a2⟩

end Go.Proofs.YtplpdikkkbiacaaGreatDoor
namespace Go.Proofs.YtplpdikkkbiacaaGreatDoor
open Go.RowKit
set_option linter.unusedVariables false
set_option linter.unusedSimpArgs false

/-- a box of the call's own that holds the answer -/
def Rb (w : World) (b : Nat) : Prop := ∃ x y z : Value, w.heap[b]? = some (.cells #[x, y, z] 50 (0, 0)) ∧ True
theorem Rb.cells {w : World} {b : Nat} (h : Rb w b) : (∃ x, w.cell? ⟨b, 0, none⟩ = some x) ∧ (∃ y, w.cell? ⟨b, 1, none⟩ = some y) ∧ (∃ z, w.cell? ⟨b, 2, none⟩ = some z) ∧ ∀ o, w.frozen? ⟨b, o, none⟩ = false := by
  obtain ⟨x, y, z, h, _⟩ := h
  exact ⟨⟨x, by simp [World.cell?, h]⟩, ⟨y, by simp [World.cell?, h]⟩, ⟨z, by simp [World.cell?, h]⟩, fun o => by simp [World.frozen?, h]⟩
theorem Rb.set3 {w : World} {b : Nat} (h : Rb w b) (u0 u1 u2 : Value) : (((w.setCell ⟨b, 0, none⟩ u0).setCell ⟨b, 1, none⟩ u1).setCell ⟨b, 2, none⟩ u2).heap[b]? = some (.cells #[u0, u1, u2] 50 (0, 0)) := by
  obtain ⟨x, y, z, h, _⟩ := h
  simp [World.setCell, Array.getElem?_modify, h]
theorem Rb.new (w : World) (x y z : Value) : Rb (w.alloc (.cells #[x, y, z] 50)) w.heap.size := ⟨x, y, z, by show (w.heap.push _)[w.heap.size]? = _; simp, trivial⟩
theorem Rb.of_block {w w' : World} {b : Nat} (h : Rb w b) (e : w'.heap[b]? = w.heap[b]?) : Rb w' b := by
  obtain ⟨x, y, z, h, _⟩ := h
  exact ⟨x, y, z, e.trans h, trivial⟩
theorem Rb.lt {w : World} {b : Nat} (h : Rb w b) : b < w.heap.size := by
  obtain ⟨⟨x, h⟩, _⟩ := h.cells
  exact World.block_lt_of_cell? _ _ h

end Go.Proofs.YtplpdikkkbiacaaGreatDoor
namespace Go.Proofs.YtplpdikkkbiacaaGreatDoor
open Go.RowKit
set_option linter.unusedVariables false
set_option linter.unusedSimpArgs false

def enc3 (p : Sh × Mx) : List Value := [.int .i64 p.1.kind, p.2.sv, p.2.kv]
def encK (ks : List (Sh × Mx)) : List Value := ks.flatMap enc3
theorem encK_append (x y : List (Sh × Mx)) : encK (x ++ y) = encK x ++ encK y := by simp [encK]
theorem encK_one (p : Sh × Mx) : encK [p] = enc3 p := by simp [encK]
def sumC : List (Sh × Mx) → Nat
  | [] => 0
  | p :: r => cnt p.1 + sumC r
theorem sumC_append (x y : List (Sh × Mx)) : sumC (x ++ y) = sumC x + sumC y := by
  induction x with
  | nil => simp [sumC]
  | cons p r ih => simp only [List.cons_append, sumC, ih]; omega
end Go.Proofs.YtplpdikkkbiacaaGreatDoor

