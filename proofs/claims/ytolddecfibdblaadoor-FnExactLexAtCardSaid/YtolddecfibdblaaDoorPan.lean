/- A range over a function whose body may panic: the laws of the walk for it, over whatever program; no Go text is walked here. -/
import Derived.RangeFuncNested
import Derived.RangeFuncBound
import Derived.RangeFuncCalls
import Derived.RangeFuncLeaves
import Derived.Below
namespace Go.Proofs.YtolddecfibdblaaDoor
open Go Go.RowKit
set_option linter.unusedVariables false
set_option linter.unusedSimpArgs false
variable {P : Program}

/-- all blocks but those of X lie as they lay; new ones may have come -/
structure Keeps (X : Nat → Prop) (W W' : World) : Prop where
  os : W'.os = W.os
  tape : W'.tape = W.tape
  output : W'.output = W.output
  size : W.heap.size ≤ W'.heap.size
  block : ∀ k, k < W.heap.size → ¬ X k → W'.heap[k]? = W.heap[k]?

theorem Keeps.refl (X : Nat → Prop) (W : World) : Keeps X W W := ⟨rfl, rfl, rfl, Nat.le_refl _, fun _ _ _ => rfl⟩
theorem Keeps.trans {X : Nat → Prop} {A B C : World} (h : Keeps X A B) (k : Keeps X B C) : Keeps X A C :=
  ⟨k.os.trans h.os, k.tape.trans h.tape, k.output.trans h.output, Nat.le_trans h.size k.size, fun i hi hx => (k.block i (Nat.lt_of_lt_of_le hi h.size) hx).trans (h.block i hi hx)⟩
theorem Keeps.mono {X Y : Nat → Prop} {A B : World} (h : Keeps X A B) (hxy : ∀ k, k < A.heap.size → X k → Y k) : Keeps Y A B :=
  ⟨h.os, h.tape, h.output, h.size, fun i hi hx => h.block i hi (fun e => hx (hxy i hi e))⟩
theorem Keeps.below {X : Nat → Prop} {A B : World} {m : Nat} (h : Keeps X A B) (hm : m ≤ A.heap.size) (hX : ∀ k, X k → m ≤ k) : Below m A B :=
  ⟨h.os, h.tape, h.output, h.size, fun i hi => h.block i (Nat.lt_of_lt_of_le hi hm) (fun e => absurd (hX i e) (by omega))⟩
theorem Keeps.cell {X : Nat → Prop} {A B : World} (h : Keeps X A B) {p : Addr} {v : Value} (hc : A.cell? p = some v) (hx : ¬ X p.block) : B.cell? p = some v :=
  (World.cell?_of_block (w := A) (h.block p.block (World.block_lt_of_cell? _ _ hc) hx)).trans hc
theorem Keeps.drew {X : Nat → Prop} {A B : World} (h : Keeps X A B) : Keeps X A B.drew := ⟨h.os, h.tape, h.output, h.size, h.block⟩
end Go.Proofs.YtolddecfibdblaaDoor

