/-
  NARROWER THAN 'FOR EVERY INPUT', by the rows' own cells (each row's printed sentence says how): FnMatchLong: ifaces, laid · FnMatchEnds: ifaces, laid.
  DERIVED. THE GIVEN ROWS OF THIS SEAT. 2 by the template 'for every input the law returns true; each argument reads behind the call as it read before'; 0 by the template 'total and deterministic' (their statements: YtdkdpdkmkabbaaaDoorTotals.lean).
  GIVEN WITH THE SEED: the statements are not yours to turn. If you find one false, say at which input.
  Laid BY PROGRAM, IN A SANDBOX (cutbox-rows.mjs): the forced cells as the released guide's own fill.sh prints them over the translation a4a6fb74d60e9b4a… (all of the seat's roots in one cut). By AI agents, Wed Nov 11 2026. No macro, syntax, notation, axiom, sorry.
-/
import Derived.Test.YtdkdpdkmkabbaaaDoorChecked
import GoSem.Claim
import GoSem.ClaimJoined
import GoSem.ClaimMapViews
import Derived.JoinedTies
import Derived.KernelRfl
namespace Go.Proofs.YtdkdpdkmkabbaaaDoor
/- THE CELL 'sum', in the pinned program and in every row, IS THE sha256 OF THE DUMP (.gsa) THAT YtdkdpdkmkabbaaaDoorProg.lean LOADS. Nothing in Lean hashes anything: it is a label: what it is worth is what the hold of that sum in a sandbox is worth. -/
noncomputable def Tryd.pinned : Pinned := { name := "ytdkdpdkmkabbaaadoor", sum := "a4a6fb74d60e9b4ae43ca929b1d324fee7bb14b83c92482102095ad06c72397c", checked := Tryd.checked }
namespace Rows
def none {H : Type} : Left H := { results := [], args := [] }

/- WHAT THE LISTED PACKAGE-LEVEL VARIABLES READ AS WHEN THE CALL BEGINS. Each datum BY PROGRAM (the guide's laid-datum.mjs) off the statement by which the dump's own 'gosem.cut.vars' lays the variable. In a bare row this is a premise. The card (YtdkdpdkmkabbaaaDoorCards.lean) ties it to the program's text. -/
def laid_loop_example_carding_impl_errNoRex {H : Type} : DataW H := .iface "*errors.errorString" (.ptr (.agg [.lit (.string [110, 111, 32, 114, 101, 120])]))

/-- 'laws.FnMatchLong': WHATEVER THE INPUT: true; the input reads as it did. -/
def fnMatchLongSpec : ChangeSpec := { name := "fnMatchLong", vars := ["loop.example/carding/impl.errNoRex"], fn := fun _ => fun
  | [d, g1] => { results := [.lit (.bool true)], args := [d], vars := [g1] }
  | _ => none }
def fnMatchLongRow : OpenClaim := { program := "ytdkdpdkmkabbaaadoor", sum := "a4a6fb74d60e9b4ae43ca929b1d324fee7bb14b83c92482102095ad06c72397c", func := "loop.example/carding/laws.FnMatchLong", spec := "fnMatchLong", unfollowed := true, recurses := true, named := ["loop.example/carding/impl.errNoRex"], ifaces := true, plainKeys := false, apart := false, laid := [("loop.example/carding/impl.errNoRex", laid_loop_example_carding_impl_errNoRex)] }
def FnMatchLongSaid : Prop := fnMatchLongRow.holds Tryd.pinned (OpenSpec.ofChange fnMatchLongSpec)

/-- ITS FALSE NEIGHBOUR: 'it returns false'. Refute it at one input. -/
def fnMatchLongWrong : ChangeSpec := { name := "fnMatchLong", vars := ["loop.example/carding/impl.errNoRex"], fn := fun _ => fun
  | [d, g1] => { results := [.lit (.bool false)], args := [d], vars := [g1] }
  | _ => none }
def FnMatchLongWrongFalsely : Prop := fnMatchLongRow.holds Tryd.pinned (OpenSpec.ofChange fnMatchLongWrong)

/-- 'laws.FnMatchEnds': WHATEVER THE INPUT: true; the input reads as it did. -/
def fnMatchEndsSpec : ChangeSpec := { name := "fnMatchEnds", vars := ["loop.example/carding/impl.errNoRex"], fn := fun _ => fun
  | [d, g1] => { results := [.lit (.bool true)], args := [d], vars := [g1] }
  | _ => none }
def fnMatchEndsRow : OpenClaim := { program := "ytdkdpdkmkabbaaadoor", sum := "a4a6fb74d60e9b4ae43ca929b1d324fee7bb14b83c92482102095ad06c72397c", func := "loop.example/carding/laws.FnMatchEnds", spec := "fnMatchEnds", unfollowed := true, recurses := true, named := ["loop.example/carding/impl.errNoRex"], ifaces := true, plainKeys := false, apart := false, laid := [("loop.example/carding/impl.errNoRex", laid_loop_example_carding_impl_errNoRex)] }
def FnMatchEndsSaid : Prop := fnMatchEndsRow.holds Tryd.pinned (OpenSpec.ofChange fnMatchEndsSpec)

/-- ITS FALSE NEIGHBOUR: 'it returns false'. Refute it at one input. -/
def fnMatchEndsWrong : ChangeSpec := { name := "fnMatchEnds", vars := ["loop.example/carding/impl.errNoRex"], fn := fun _ => fun
  | [d, g1] => { results := [.lit (.bool false)], args := [d], vars := [g1] }
  | _ => none }
def FnMatchEndsWrongFalsely : Prop := fnMatchEndsRow.holds Tryd.pinned (OpenSpec.ofChange fnMatchEndsWrong)

/- THE SECOND FORM. 'bulk': how many values and letters a reading holds, each counted each time it is reached (what is shared counts as often as it is met; a slice's spare places count too). A statement '..UptoSaid' is the law's where the arguments, and the package variables that the reading takes, are together of bulk at most 1048576: NARROWER than '..Said'. Prove '..Said' where nothing that the law and all that it calls make is longer than what came in: it says more and counts as full. Else prove '..UptoSaid'. A law counts once. -/
mutual
def uptoBulk {H : Type} : DataW H → Nat
  | .lit (.string bytes) => bytes.length + 1
  | .lit _ => 1
  | .nil => 1
  | .ptr d => uptoBulk d + 1
  | .slice elems spare => uptoBulkAll elems + uptoBulkAll spare + 1
  | .agg parts => uptoBulkAll parts + 1
  | .iface _ d => uptoBulk d + 1
  | .map entries => uptoBulkEntries entries + 1
  | .held _ => 1
def uptoBulkAll {H : Type} : List (DataW H) → Nat
  | [] => 0
  | d :: r => uptoBulk d + uptoBulkAll r
def uptoBulkEntries {H : Type} : List (Lit × DataW H) → Nat
  | [] => 0
  | x :: r => uptoBulkEntry x + uptoBulkEntries r
def uptoBulkEntry {H : Type} : Lit × DataW H → Nat
  | (.string bytes, d) => bytes.length + uptoBulk d + 1
  | (_, d) => uptoBulk d + 1
 end
def uptoSmall : (H : Type) → List (DataW H) → Bool := fun _ ds => decide (uptoBulkAll ds ≤ 1048576)
def OpenSpec.upto (s : _root_.Go.ChangeSpec) : _root_.Go.OpenSpec := { _root_.Go.OpenSpec.ofChange s with cond := some uptoSmall }

/-- 'laws.FnMatchLong', WHERE WHAT IT READS IS OF BULK AT MOST 1048576: true; the input reads as it did. -/
def fnMatchLongUptoRow : OpenClaim := { program := "ytdkdpdkmkabbaaadoor", sum := "a4a6fb74d60e9b4ae43ca929b1d324fee7bb14b83c92482102095ad06c72397c", func := "loop.example/carding/laws.FnMatchLong", spec := "fnMatchLong", unfollowed := true, recurses := true, named := ["loop.example/carding/impl.errNoRex"], ifaces := true, plainKeys := false, apart := false, laid := [("loop.example/carding/impl.errNoRex", laid_loop_example_carding_impl_errNoRex)], narrowed := true }
def FnMatchLongUptoSaid : Prop := fnMatchLongUptoRow.holds Tryd.pinned (OpenSpec.upto fnMatchLongSpec)

/-- 'laws.FnMatchEnds', WHERE WHAT IT READS IS OF BULK AT MOST 1048576: true; the input reads as it did. -/
def fnMatchEndsUptoRow : OpenClaim := { program := "ytdkdpdkmkabbaaadoor", sum := "a4a6fb74d60e9b4ae43ca929b1d324fee7bb14b83c92482102095ad06c72397c", func := "loop.example/carding/laws.FnMatchEnds", spec := "fnMatchEnds", unfollowed := true, recurses := true, named := ["loop.example/carding/impl.errNoRex"], ifaces := true, plainKeys := false, apart := false, laid := [("loop.example/carding/impl.errNoRex", laid_loop_example_carding_impl_errNoRex)], narrowed := true }
def FnMatchEndsUptoSaid : Prop := fnMatchEndsUptoRow.holds Tryd.pinned (OpenSpec.upto fnMatchEndsSpec)

end Rows
end Go.Proofs.YtdkdpdkmkabbaaaDoor
