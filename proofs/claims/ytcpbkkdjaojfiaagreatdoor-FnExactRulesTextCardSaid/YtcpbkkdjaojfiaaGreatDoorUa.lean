/- What a list of rules is in memory; how much it holds; no Go text is walked here. -/
import Derived.Test.YtcpbkkdjaojfiaaGreatDoorTc
namespace Go.Proofs.YtcpbkkdjaojfiaaGreatDoor
open Go.RowKit
set_option linter.unusedVariables false
set_option linter.unusedSimpArgs false

/-- a rule as a value -/
def rv (s : ByteArray) (S : Sh) (M : Mx) : Value := .agg #[.string s, .int .i64 S.kind, M.sv, M.kv]

/-- the rule's name and its Rex lie there -/
def RuleAt (w : World) (b o : Nat) (s : ByteArray) (S : Sh) (M : Mx) : Prop := w.cell? ⟨b, o, none⟩ = some (.string s) ∧ Kid w b (o + 1) S M

/-- the rules lie there -/
def RulesIn (B : Nat → Prop) (w : World) (b off n : Nat) (N : Nat → ByteArray) (K : Nat → Sh) (M : Nat → Mx) : Prop :=
  ∀ i, i < n → RuleAt w b (off + i * 4) (N i) (K i) (M i) ∧ In B w (K i) (M i)

theorem RuleAt.keep {w w' : World} {b o : Nat} {s : ByteArray} {S : Sh} {M : Mx} (h : RuleAt w b o s S M) (e : b < w.heap.size → w'.heap[b]? = w.heap[b]?) : RuleAt w' b o s S M :=
  ⟨(World.cell?_of_block (w := w) (a := ⟨b, _, none⟩) (e (World.block_lt_of_cell? _ _ h.1))).trans h.1, h.2.keep e⟩
theorem RuleAt.below {w w' : World} {b o : Nat} {s : ByteArray} {S : Sh} {M : Mx} (h : RuleAt w b o s S M) (hb : Below w.heap.size w w') : RuleAt w' b o s S M := h.keep (fun e => hb.block _ e)
theorem RulesIn.below {B : Nat → Prop} {w w' : World} {b off n : Nat} {N : Nat → ByteArray} {K : Nat → Sh} {M : Nat → Mx} (h : RulesIn B w b off n N K M) (hb : Below w.heap.size w w') : RulesIn B w' b off n N K M :=
  fun i hi => ⟨(h i hi).1.below hb, (h i hi).2.below hb⟩
theorem RulesIn.any {B : Nat → Prop} {w : World} {b off n : Nat} {N : Nat → ByteArray} {K : Nat → Sh} {M : Nat → Mx} (h : RulesIn B w b off n N K M) : RulesIn AnyB w b off n N K M :=
  fun i hi => ⟨(h i hi).1, (h i hi).2.mono (fun _ _ => trivial)⟩

/-- the four cells of a rule, as they are met -/
theorem RuleAt.cells {w : World} {b o : Nat} {s : ByteArray} {S : Sh} {M : Mx} (h : RuleAt w b o s S M) :
    w.cell? ⟨b, o, none⟩ = some (.string s) ∧ w.cell? ⟨b, o + 1, none⟩ = some (.int .i64 S.kind) ∧ w.cell? ⟨b, o + 2, none⟩ = some M.sv ∧ w.cell? ⟨b, o + 3, none⟩ = some M.kv :=
  ⟨h.1, h.2.1, h.2.2.1, h.2.2.2⟩

/-- how much a rule holds -/
def cntU (s : ByteArray) (S : Sh) : Nat := s.size + cnt S

end Go.Proofs.YtcpbkkdjaojfiaaGreatDoor

