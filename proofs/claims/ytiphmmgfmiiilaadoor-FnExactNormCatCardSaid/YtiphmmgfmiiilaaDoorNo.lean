/- The walks of the laws of NormStar and NormNot. -/
import Derived.Test.YtiphmmgfmiiilaaDoorNp
import Derived.Deep.RegionWith
namespace Go.Proofs.YtiphmmgfmiiilaaDoor
open Go.RowKit Go.Shelf
set_option linter.unusedVariables false
set_option linter.unusedSimpArgs false

/-- nothing turns but in the blocks of T -/
structure Far (T : Nat → Prop) (w w' : World) : Prop where
  os : w'.os = w.os
  tape : w'.tape = w.tape
  output : w'.output = w.output
  size : w.heap.size ≤ w'.heap.size
  far : ∀ k, k < w.heap.size → ¬ T k → w'.heap[k]? = w.heap[k]?
theorem Far.trans {T : Nat → Prop} {a b c : World} (h : Far T a b) (k : Far T b c) : Far T a c :=
  ⟨k.os.trans h.os, k.tape.trans h.tape, k.output.trans h.output, Nat.le_trans h.size k.size, fun j hj hf => (k.far j (Nat.lt_of_lt_of_le hj h.size) hf).trans (h.far j hj hf)⟩
theorem Far.below {T : Nat → Prop} {w w' : World} (hb : Below w.heap.size w w') : Far T w w' := ⟨hb.os, hb.tape, hb.output, hb.size, fun k hk _ => hb.block k hk⟩
theorem Far.cell {T : Nat → Prop} {w w' : World} (h : Far T w w') {b o : Nat} {v : Value} (hc : w.cell? ⟨b, o, none⟩ = some v) (hT : ¬ T b) : w'.cell? ⟨b, o, none⟩ = some v :=
  (World.cell?_of_block (w := w) (a := ⟨b, o, none⟩) (h.far b (World.block_lt_of_cell? _ _ hc) hT)).trans hc
theorem Far.toBelow {T : Nat → Prop} {w w' : World} {n : Nat} (h : Far T w w') (hT : ∀ k, T k → n ≤ k) (hn : n ≤ w.heap.size) : Below n w w' := ⟨h.os, h.tape, h.output, h.size, fun k hk => h.far k (by omega) (fun e => by have := hT k e; omega)⟩
theorem Turn.toFar {T T' : Nat → Prop} {w w' : World} (h : Turn T w w') (hT : ∀ k, T k → T' k) : Far T' w w' := ⟨h.os, h.tape, h.output, h.size, fun k hk hf => h.far k hk (fun e => hf (hT k e))⟩
theorem Marks.toFar {lo hi : Nat} {T' : Nat → Prop} {w w' : World} (h : Marks lo hi w w') (hT : ∀ k, lo ≤ k → k < hi → T' k) : Far T' w w' := ⟨h.os, h.tape, h.output, h.size, fun k hk hf => h.far k hk (by
  rcases Nat.lt_or_ge k lo with h1 | h1
  · exact .inl h1
  · rcases Nat.lt_or_ge k hi with h2 | h2
    · exact absurd (hT k h1 h2) hf
    · exact .inr h2)⟩
theorem leftOf_lt' {c : Nat} (h : 1048576 < c) : leftOf 1048576 c = -1 := leftOf_neg (by omega)

end Go.Proofs.YtiphmmgfmiiilaaDoor

