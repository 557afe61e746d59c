/-
  NARROWER THAN 'FOR EVERY INPUT', by the rows' own cells (each row's printed sentence says how): FnRexMany: ifaces, laid · FnMatch: ifaces, laid · FnMatchCat: ifaces, laid · FnMatchWord: ifaces, laid.
  DERIVED. THE GIVEN ROWS OF THIS SEAT. 4 by the template 'for every input the law returns true; each argument reads behind the call as it read before'; 0 by the template 'total and deterministic' (their statements: YtkbhljpdneibaaaDoorTotals.lean).
  GIVEN WITH THE SEED: the statements are not yours to turn. If you find one false, say at which input.
  Laid BY PROGRAM, IN A SANDBOX (cutbox-rows.mjs): the forced cells as the released guide's own fill.sh prints them over the translation 1f59e812b24c01be… (all of the seat's roots in one cut). By AI agents, Wed Nov 11 2026. No macro, syntax, notation, axiom, sorry.
-/
import Derived.Test.YtkbhljpdneibaaaDoorChecked
import GoSem.Claim
import GoSem.ClaimJoined
import GoSem.ClaimMapViews
import Derived.JoinedTies
import Derived.KernelRfl
namespace Go.Proofs.YtkbhljpdneibaaaDoor
/- THE CELL 'sum', in the pinned program and in every row, IS THE sha256 OF THE DUMP (.gsa) THAT YtkbhljpdneibaaaDoorProg.lean LOADS. Nothing in Lean hashes anything: it is a label: what it is worth is what the hold of that sum in a sandbox is worth. -/
noncomputable def Tryd.pinned : Pinned := { name := "ytkbhljpdneibaaadoor", sum := "1f59e812b24c01be0740ffa419b201fe4b0f43cf685611b914cd0e4d73e80297", checked := Tryd.checked }
namespace Rows
def none {H : Type} : Left H := { results := [], args := [] }

/- WHAT THE LISTED PACKAGE-LEVEL VARIABLES READ AS WHEN THE CALL BEGINS. Each datum BY PROGRAM (the guide's laid-datum.mjs) off the statement by which the dump's own 'gosem.cut.vars' lays the variable. In a bare row this is a premise. The card (YtkbhljpdneibaaaDoorCards.lean) ties it to the program's text. -/
def laid_loop_example_carding_impl_errNoRex {H : Type} : DataW H := .iface "*errors.errorString" (.ptr (.agg [.lit (.string [110, 111, 32, 114, 101, 120])]))

/-- 'laws.FnRexMany': WHATEVER THE INPUT: true; the input reads as it did. -/
def fnRexManySpec : ChangeSpec := { name := "fnRexMany", vars := ["loop.example/carding/impl.errNoRex"], fn := fun _ => fun
  | [d, g1] => { results := [.lit (.bool true)], args := [d], vars := [g1] }
  | _ => none }
def fnRexManyRow : OpenClaim := { program := "ytkbhljpdneibaaadoor", sum := "1f59e812b24c01be0740ffa419b201fe4b0f43cf685611b914cd0e4d73e80297", func := "loop.example/carding/laws.FnRexMany", spec := "fnRexMany", unfollowed := true, recurses := true, named := ["loop.example/carding/impl.errNoRex"], ifaces := true, plainKeys := false, apart := false, laid := [("loop.example/carding/impl.errNoRex", laid_loop_example_carding_impl_errNoRex)] }
def FnRexManySaid : Prop := fnRexManyRow.holds Tryd.pinned (OpenSpec.ofChange fnRexManySpec)

/-- ITS FALSE NEIGHBOUR: 'it returns false'. Refute it at one input. -/
def fnRexManyWrong : ChangeSpec := { name := "fnRexMany", vars := ["loop.example/carding/impl.errNoRex"], fn := fun _ => fun
  | [d, g1] => { results := [.lit (.bool false)], args := [d], vars := [g1] }
  | _ => none }
def FnRexManyWrongFalsely : Prop := fnRexManyRow.holds Tryd.pinned (OpenSpec.ofChange fnRexManyWrong)

/-- 'laws.FnMatch': WHATEVER THE INPUT: true; the input reads as it did. -/
def fnMatchSpec : ChangeSpec := { name := "fnMatch", vars := ["loop.example/carding/impl.errNoRex"], fn := fun _ => fun
  | [d, g1] => { results := [.lit (.bool true)], args := [d], vars := [g1] }
  | _ => none }
def fnMatchRow : OpenClaim := { program := "ytkbhljpdneibaaadoor", sum := "1f59e812b24c01be0740ffa419b201fe4b0f43cf685611b914cd0e4d73e80297", func := "loop.example/carding/laws.FnMatch", spec := "fnMatch", unfollowed := true, recurses := true, named := ["loop.example/carding/impl.errNoRex"], ifaces := true, plainKeys := false, apart := false, laid := [("loop.example/carding/impl.errNoRex", laid_loop_example_carding_impl_errNoRex)] }
def FnMatchSaid : Prop := fnMatchRow.holds Tryd.pinned (OpenSpec.ofChange fnMatchSpec)

/-- ITS FALSE NEIGHBOUR: 'it returns false'. Refute it at one input. -/
def fnMatchWrong : ChangeSpec := { name := "fnMatch", vars := ["loop.example/carding/impl.errNoRex"], fn := fun _ => fun
  | [d, g1] => { results := [.lit (.bool false)], args := [d], vars := [g1] }
  | _ => none }
def FnMatchWrongFalsely : Prop := fnMatchRow.holds Tryd.pinned (OpenSpec.ofChange fnMatchWrong)

/-- 'laws.FnMatchCat': WHATEVER THE INPUT: true; the input reads as it did. -/
def fnMatchCatSpec : ChangeSpec := { name := "fnMatchCat", vars := ["loop.example/carding/impl.errNoRex"], fn := fun _ => fun
  | [d1, d2, g1] => { results := [.lit (.bool true)], args := [d1, d2], vars := [g1] }
  | _ => none }
def fnMatchCatRow : OpenClaim := { program := "ytkbhljpdneibaaadoor", sum := "1f59e812b24c01be0740ffa419b201fe4b0f43cf685611b914cd0e4d73e80297", func := "loop.example/carding/laws.FnMatchCat", spec := "fnMatchCat", unfollowed := true, recurses := true, named := ["loop.example/carding/impl.errNoRex"], ifaces := true, plainKeys := false, apart := false, laid := [("loop.example/carding/impl.errNoRex", laid_loop_example_carding_impl_errNoRex)] }
def FnMatchCatSaid : Prop := fnMatchCatRow.holds Tryd.pinned (OpenSpec.ofChange fnMatchCatSpec)

/-- ITS FALSE NEIGHBOUR: 'it returns false'. Refute it at one input. -/
def fnMatchCatWrong : ChangeSpec := { name := "fnMatchCat", vars := ["loop.example/carding/impl.errNoRex"], fn := fun _ => fun
  | [d1, d2, g1] => { results := [.lit (.bool false)], args := [d1, d2], vars := [g1] }
  | _ => none }
def FnMatchCatWrongFalsely : Prop := fnMatchCatRow.holds Tryd.pinned (OpenSpec.ofChange fnMatchCatWrong)

/-- 'laws.FnMatchWord': WHATEVER THE INPUT: true; the input reads as it did. -/
def fnMatchWordSpec : ChangeSpec := { name := "fnMatchWord", vars := ["loop.example/carding/impl.errNoRex"], fn := fun _ => fun
  | [d1, d2, g1] => { results := [.lit (.bool true)], args := [d1, d2], vars := [g1] }
  | _ => none }
def fnMatchWordRow : OpenClaim := { program := "ytkbhljpdneibaaadoor", sum := "1f59e812b24c01be0740ffa419b201fe4b0f43cf685611b914cd0e4d73e80297", func := "loop.example/carding/laws.FnMatchWord", spec := "fnMatchWord", unfollowed := true, recurses := true, named := ["loop.example/carding/impl.errNoRex"], ifaces := true, plainKeys := false, apart := false, laid := [("loop.example/carding/impl.errNoRex", laid_loop_example_carding_impl_errNoRex)] }
def FnMatchWordSaid : Prop := fnMatchWordRow.holds Tryd.pinned (OpenSpec.ofChange fnMatchWordSpec)

/-- ITS FALSE NEIGHBOUR: 'it returns false'. Refute it at one input. -/
def fnMatchWordWrong : ChangeSpec := { name := "fnMatchWord", vars := ["loop.example/carding/impl.errNoRex"], fn := fun _ => fun
  | [d1, d2, g1] => { results := [.lit (.bool false)], args := [d1, d2], vars := [g1] }
  | _ => none }
def FnMatchWordWrongFalsely : Prop := fnMatchWordRow.holds Tryd.pinned (OpenSpec.ofChange fnMatchWordWrong)

/- THE SECOND FORM. 'bulk': how many values and letters a reading holds, each counted each time it is reached (what is shared counts as often as it is met; a slice's spare places count too). A statement '..UptoSaid' is the law's where the arguments, and the package variables that the reading takes, are together of bulk at most 1048576: NARROWER than '..Said'. Prove '..Said' where nothing that the law and all that it calls make is longer than what came in: it says more and counts as full. Else prove '..UptoSaid'. A law counts once. -/
mutual
def uptoBulk {H : Type} : DataW H → Nat
  | .lit (.string bytes) => bytes.length + 1
  | .lit _ => 1
  | .nil => 1
  | .ptr d => uptoBulk d + 1
  | .slice elems spare => uptoBulkAll elems + uptoBulkAll spare + 1
  | .agg parts => uptoBulkAll parts + 1
  | .iface _ d => uptoBulk d + 1
  | .map entries => uptoBulkEntries entries + 1
  | .held _ => 1
def uptoBulkAll {H : Type} : List (DataW H) → Nat
  | [] => 0
  | d :: r => uptoBulk d + uptoBulkAll r
def uptoBulkEntries {H : Type} : List (Lit × DataW H) → Nat
  | [] => 0
  | x :: r => uptoBulkEntry x + uptoBulkEntries r
def uptoBulkEntry {H : Type} : Lit × DataW H → Nat
  | (.string bytes, d) => bytes.length + uptoBulk d + 1
  | (_, d) => uptoBulk d + 1
 end
def uptoSmall : (H : Type) → List (DataW H) → Bool := fun _ ds => decide (uptoBulkAll ds ≤ 1048576)
def OpenSpec.upto (s : _root_.Go.ChangeSpec) : _root_.Go.OpenSpec := { _root_.Go.OpenSpec.ofChange s with cond := some uptoSmall }

/-- 'laws.FnRexMany', WHERE WHAT IT READS IS OF BULK AT MOST 1048576: true; the input reads as it did. -/
def fnRexManyUptoRow : OpenClaim := { program := "ytkbhljpdneibaaadoor", sum := "1f59e812b24c01be0740ffa419b201fe4b0f43cf685611b914cd0e4d73e80297", func := "loop.example/carding/laws.FnRexMany", spec := "fnRexMany", unfollowed := true, recurses := true, named := ["loop.example/carding/impl.errNoRex"], ifaces := true, plainKeys := false, apart := false, laid := [("loop.example/carding/impl.errNoRex", laid_loop_example_carding_impl_errNoRex)], narrowed := true }
def FnRexManyUptoSaid : Prop := fnRexManyUptoRow.holds Tryd.pinned (OpenSpec.upto fnRexManySpec)

/-- 'laws.FnMatch', WHERE WHAT IT READS IS OF BULK AT MOST 1048576: true; the input reads as it did. -/
def fnMatchUptoRow : OpenClaim := { program := "ytkbhljpdneibaaadoor", sum := "1f59e812b24c01be0740ffa419b201fe4b0f43cf685611b914cd0e4d73e80297", func := "loop.example/carding/laws.FnMatch", spec := "fnMatch", unfollowed := true, recurses := true, named := ["loop.example/carding/impl.errNoRex"], ifaces := true, plainKeys := false, apart := false, laid := [("loop.example/carding/impl.errNoRex", laid_loop_example_carding_impl_errNoRex)], narrowed := true }
def FnMatchUptoSaid : Prop := fnMatchUptoRow.holds Tryd.pinned (OpenSpec.upto fnMatchSpec)

/-- 'laws.FnMatchCat', WHERE WHAT IT READS IS OF BULK AT MOST 1048576: true; the input reads as it did. -/
def fnMatchCatUptoRow : OpenClaim := { program := "ytkbhljpdneibaaadoor", sum := "1f59e812b24c01be0740ffa419b201fe4b0f43cf685611b914cd0e4d73e80297", func := "loop.example/carding/laws.FnMatchCat", spec := "fnMatchCat", unfollowed := true, recurses := true, named := ["loop.example/carding/impl.errNoRex"], ifaces := true, plainKeys := false, apart := false, laid := [("loop.example/carding/impl.errNoRex", laid_loop_example_carding_impl_errNoRex)], narrowed := true }
def FnMatchCatUptoSaid : Prop := fnMatchCatUptoRow.holds Tryd.pinned (OpenSpec.upto fnMatchCatSpec)

/-- 'laws.FnMatchWord', WHERE WHAT IT READS IS OF BULK AT MOST 1048576: true; the input reads as it did. -/
def fnMatchWordUptoRow : OpenClaim := { program := "ytkbhljpdneibaaadoor", sum := "1f59e812b24c01be0740ffa419b201fe4b0f43cf685611b914cd0e4d73e80297", func := "loop.example/carding/laws.FnMatchWord", spec := "fnMatchWord", unfollowed := true, recurses := true, named := ["loop.example/carding/impl.errNoRex"], ifaces := true, plainKeys := false, apart := false, laid := [("loop.example/carding/impl.errNoRex", laid_loop_example_carding_impl_errNoRex)], narrowed := true }
def FnMatchWordUptoSaid : Prop := fnMatchWordUptoRow.holds Tryd.pinned (OpenSpec.upto fnMatchWordSpec)

end Rows
end Go.Proofs.YtkbhljpdneibaaaDoor
