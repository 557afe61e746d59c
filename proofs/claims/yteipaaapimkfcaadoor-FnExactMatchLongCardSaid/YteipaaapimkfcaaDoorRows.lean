/-
  NARROWER THAN 'FOR EVERY INPUT', by the rows' own cells (each row's printed sentence says how): FnExactMatchIs: loops, ifaces, laid · FnExactMatchLong: loops, ifaces, laid.
  DERIVED. THE GIVEN ROWS OF THIS SEAT. 2 by the template 'for every input the law returns true; each argument reads behind the call as it read before'; 0 by the template 'total and deterministic' (their statements: YteipaaapimkfcaaDoorTotals.lean).
  GIVEN WITH THE SEED: the statements are not yours to turn. If you find one false, say at which input.
  Laid BY PROGRAM, IN A SANDBOX (cutbox-rows.mjs): the forced cells as the released guide's own fill.sh prints them over the translation 1d6b8663e79eb93b… (all of the seat's roots in one cut). By AI agents, Wed Nov 11 2026. No macro, syntax, notation, axiom, sorry.
-/
import Derived.Test.YteipaaapimkfcaaDoorChecked
import GoSem.Claim
import GoSem.ClaimJoined
import GoSem.ClaimMapViews
import Derived.JoinedTies
import Derived.KernelRfl
namespace Go.Proofs.YteipaaapimkfcaaDoor
/- THE CELL 'sum', in the pinned program and in every row, IS THE sha256 OF THE DUMP (.gsa) THAT YteipaaapimkfcaaDoorProg.lean LOADS. Nothing in Lean hashes anything: it is a label: what it is worth is what the hold of that sum in a sandbox is worth. -/
noncomputable def Tryd.pinned : Pinned := { name := "yteipaaapimkfcaadoor", sum := "1d6b8663e79eb93b96d25a756752f867b5e76b796ea8813c419d27ce0c61b106", checked := Tryd.checked }
namespace Rows
def none {H : Type} : Left H := { results := [], args := [] }

/- WHAT THE LISTED PACKAGE-LEVEL VARIABLES READ AS WHEN THE CALL BEGINS. Each datum BY PROGRAM (the guide's laid-datum.mjs) off the statement by which the dump's own 'gosem.cut.vars' lays the variable. In a bare row this is a premise. The card (YteipaaapimkfcaaDoorCards.lean) ties it to the program's text. -/
def laid_loop_example_carding_impl_errNoRex {H : Type} : DataW H := .iface "*errors.errorString" (.ptr (.agg [.lit (.string [110, 111, 32, 114, 101, 120])]))

/-- 'laws.FnExactMatchIs': WHATEVER THE INPUT: true; the input reads as it did. -/
def fnExactMatchIsSpec : ChangeSpec := { name := "fnExactMatchIs", vars := ["loop.example/carding/impl.errNoRex"], fn := fun _ => fun
  | [d1, d2, g1] => { results := [.lit (.bool true)], args := [d1, d2], vars := [g1] }
  | _ => none }
def fnExactMatchIsRow : OpenClaim := { program := "yteipaaapimkfcaadoor", sum := "1d6b8663e79eb93b96d25a756752f867b5e76b796ea8813c419d27ce0c61b106", func := "loop.example/carding/laws.FnExactMatchIs", spec := "fnExactMatchIs", unfollowed := true, recurses := true, named := ["loop.example/carding/impl.errNoRex"], ifaces := true, loops := true, plainKeys := false, apart := false, laid := [("loop.example/carding/impl.errNoRex", laid_loop_example_carding_impl_errNoRex)] }
def FnExactMatchIsSaid : Prop := fnExactMatchIsRow.holds Tryd.pinned (OpenSpec.ofChange fnExactMatchIsSpec)

/-- ITS FALSE NEIGHBOUR: 'it returns false'. Refute it at one input. -/
def fnExactMatchIsWrong : ChangeSpec := { name := "fnExactMatchIs", vars := ["loop.example/carding/impl.errNoRex"], fn := fun _ => fun
  | [d1, d2, g1] => { results := [.lit (.bool false)], args := [d1, d2], vars := [g1] }
  | _ => none }
def FnExactMatchIsWrongFalsely : Prop := fnExactMatchIsRow.holds Tryd.pinned (OpenSpec.ofChange fnExactMatchIsWrong)

/-- 'laws.FnExactMatchLong': WHATEVER THE INPUT: true; the input reads as it did. -/
def fnExactMatchLongSpec : ChangeSpec := { name := "fnExactMatchLong", vars := ["loop.example/carding/impl.errNoRex"], fn := fun _ => fun
  | [d1, d2, d3, g1] => { results := [.lit (.bool true)], args := [d1, d2, d3], vars := [g1] }
  | _ => none }
def fnExactMatchLongRow : OpenClaim := { program := "yteipaaapimkfcaadoor", sum := "1d6b8663e79eb93b96d25a756752f867b5e76b796ea8813c419d27ce0c61b106", func := "loop.example/carding/laws.FnExactMatchLong", spec := "fnExactMatchLong", unfollowed := true, recurses := true, named := ["loop.example/carding/impl.errNoRex"], ifaces := true, loops := true, plainKeys := false, apart := false, laid := [("loop.example/carding/impl.errNoRex", laid_loop_example_carding_impl_errNoRex)] }
def FnExactMatchLongSaid : Prop := fnExactMatchLongRow.holds Tryd.pinned (OpenSpec.ofChange fnExactMatchLongSpec)

/-- ITS FALSE NEIGHBOUR: 'it returns false'. Refute it at one input. -/
def fnExactMatchLongWrong : ChangeSpec := { name := "fnExactMatchLong", vars := ["loop.example/carding/impl.errNoRex"], fn := fun _ => fun
  | [d1, d2, d3, g1] => { results := [.lit (.bool false)], args := [d1, d2, d3], vars := [g1] }
  | _ => none }
def FnExactMatchLongWrongFalsely : Prop := fnExactMatchLongRow.holds Tryd.pinned (OpenSpec.ofChange fnExactMatchLongWrong)

/- THE SECOND FORM. 'bulk': how many values and letters a reading holds, each counted each time it is reached (what is shared counts as often as it is met; a slice's spare places count too). A statement '..UptoSaid' is the law's where the arguments, and the package variables that the reading takes, are together of bulk at most 1048576: NARROWER than '..Said'. Prove '..Said' where nothing that the law and all that it calls make is longer than what came in: it says more and counts as full. Else prove '..UptoSaid'. A law counts once. -/
mutual
def uptoBulk {H : Type} : DataW H → Nat
  | .lit (.string bytes) => bytes.length + 1
  | .lit _ => 1
  | .nil => 1
  | .ptr d => uptoBulk d + 1
  | .slice elems spare => uptoBulkAll elems + uptoBulkAll spare + 1
  | .agg parts => uptoBulkAll parts + 1
  | .iface _ d => uptoBulk d + 1
  | .map entries => uptoBulkEntries entries + 1
  | .held _ => 1
def uptoBulkAll {H : Type} : List (DataW H) → Nat
  | [] => 0
  | d :: r => uptoBulk d + uptoBulkAll r
def uptoBulkEntries {H : Type} : List (Lit × DataW H) → Nat
  | [] => 0
  | x :: r => uptoBulkEntry x + uptoBulkEntries r
def uptoBulkEntry {H : Type} : Lit × DataW H → Nat
  | (.string bytes, d) => bytes.length + uptoBulk d + 1
  | (_, d) => uptoBulk d + 1
 end
def uptoSmall : (H : Type) → List (DataW H) → Bool := fun _ ds => decide (uptoBulkAll ds ≤ 1048576)
def OpenSpec.upto (s : _root_.Go.ChangeSpec) : _root_.Go.OpenSpec := { _root_.Go.OpenSpec.ofChange s with cond := some uptoSmall }

/-- 'laws.FnExactMatchIs', WHERE WHAT IT READS IS OF BULK AT MOST 1048576: true; the input reads as it did. -/
def fnExactMatchIsUptoRow : OpenClaim := { program := "yteipaaapimkfcaadoor", sum := "1d6b8663e79eb93b96d25a756752f867b5e76b796ea8813c419d27ce0c61b106", func := "loop.example/carding/laws.FnExactMatchIs", spec := "fnExactMatchIs", unfollowed := true, recurses := true, named := ["loop.example/carding/impl.errNoRex"], ifaces := true, loops := true, plainKeys := false, apart := false, laid := [("loop.example/carding/impl.errNoRex", laid_loop_example_carding_impl_errNoRex)], narrowed := true }
def FnExactMatchIsUptoSaid : Prop := fnExactMatchIsUptoRow.holds Tryd.pinned (OpenSpec.upto fnExactMatchIsSpec)

/-- 'laws.FnExactMatchLong', WHERE WHAT IT READS IS OF BULK AT MOST 1048576: true; the input reads as it did. -/
def fnExactMatchLongUptoRow : OpenClaim := { program := "yteipaaapimkfcaadoor", sum := "1d6b8663e79eb93b96d25a756752f867b5e76b796ea8813c419d27ce0c61b106", func := "loop.example/carding/laws.FnExactMatchLong", spec := "fnExactMatchLong", unfollowed := true, recurses := true, named := ["loop.example/carding/impl.errNoRex"], ifaces := true, loops := true, plainKeys := false, apart := false, laid := [("loop.example/carding/impl.errNoRex", laid_loop_example_carding_impl_errNoRex)], narrowed := true }
def FnExactMatchLongUptoSaid : Prop := fnExactMatchLongUptoRow.holds Tryd.pinned (OpenSpec.upto fnExactMatchLongSpec)

end Rows
end Go.Proofs.YteipaaapimkfcaaDoor
