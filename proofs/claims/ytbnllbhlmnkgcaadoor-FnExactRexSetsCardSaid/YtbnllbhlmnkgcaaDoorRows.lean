/-
  NARROWER THAN 'FOR EVERY INPUT', by the rows' own cells (each row's printed sentence says how): FnMatchLong: ifaces, laid · FnMatchEnds: ifaces, laid · FnExactSetParts: laid · FnExactRexOk: loops, ifaces, laid · FnExactRexMany: loops, ifaces, laid · FnExactRexNull: loops, ifaces, laid · FnExactRexSets: loops, ifaces, laid · FnExactRexText: loops, ifaces, laid · FnExactMatchIs: loops, ifaces, laid · FnExactMatchLong: loops, ifaces, laid · FnExactNormCat: loops, ifaces, laid · FnExactNormStar: loops, ifaces, laid · FnExactNormNot: loops, ifaces, laid.
  DERIVED. THE GIVEN ROWS OF THIS SEAT. 13 by the template 'for every input the law returns true; each argument reads behind the call as it read before'; 0 by the template 'total and deterministic' (their statements: YtbnllbhlmnkgcaaDoorTotals.lean).
  GIVEN WITH THE SEED: the statements are not yours to turn. If you find one false, say at which input.
  Laid BY PROGRAM, IN A SANDBOX (cutbox-rows.mjs): the forced cells as the released guide's own fill.sh prints them over the translation 531b61fd9c75b6d0… (all of the seat's roots in one cut). By AI agents, Wed Nov 11 2026. No macro, syntax, notation, axiom, sorry.
-/
import Derived.Test.YtbnllbhlmnkgcaaDoorChecked
import GoSem.Claim
import GoSem.ClaimJoined
import GoSem.ClaimMapViews
import Derived.JoinedTies
import Derived.KernelRfl
namespace Go.Proofs.YtbnllbhlmnkgcaaDoor
/- THE CELL 'sum', in the pinned program and in every row, IS THE sha256 OF THE DUMP (.gsa) THAT YtbnllbhlmnkgcaaDoorProg.lean LOADS. Nothing in Lean hashes anything: it is a label: what it is worth is what the hold of that sum in a sandbox is worth. -/
noncomputable def Tryd.pinned : Pinned := { name := "ytbnllbhlmnkgcaadoor", sum := "531b61fd9c75b6d0c0c6f588e2b59d76144d2ed6b0eefed713b2f18729e9d3e5", checked := Tryd.checked }
namespace Rows
def none {H : Type} : Left H := { results := [], args := [] }

/- WHAT THE LISTED PACKAGE-LEVEL VARIABLES READ AS WHEN THE CALL BEGINS. Each datum BY PROGRAM (the guide's laid-datum.mjs) off the statement by which the dump's own 'gosem.cut.vars' lays the variable. In a bare row this is a premise. The card (YtbnllbhlmnkgcaaDoorCards.lean) ties it to the program's text. -/
def laid_loop_example_carding_impl_errNoRex {H : Type} : DataW H := .iface "*errors.errorString" (.ptr (.agg [.lit (.string [110, 111, 32, 114, 101, 120])]))
def laid_math_bits_deBruijn64tab {H : Type} : DataW H := .agg [.lit (.int .u8 0), .lit (.int .u8 1), .lit (.int .u8 56), .lit (.int .u8 2), .lit (.int .u8 57), .lit (.int .u8 49), .lit (.int .u8 28), .lit (.int .u8 3), .lit (.int .u8 61), .lit (.int .u8 58), .lit (.int .u8 42), .lit (.int .u8 50), .lit (.int .u8 38), .lit (.int .u8 29), .lit (.int .u8 17), .lit (.int .u8 4), .lit (.int .u8 62), .lit (.int .u8 47), .lit (.int .u8 59), .lit (.int .u8 36), .lit (.int .u8 45), .lit (.int .u8 43), .lit (.int .u8 51), .lit (.int .u8 22), .lit (.int .u8 53), .lit (.int .u8 39), .lit (.int .u8 33), .lit (.int .u8 30), .lit (.int .u8 24), .lit (.int .u8 18), .lit (.int .u8 12), .lit (.int .u8 5), .lit (.int .u8 63), .lit (.int .u8 55), .lit (.int .u8 48), .lit (.int .u8 27), .lit (.int .u8 60), .lit (.int .u8 41), .lit (.int .u8 37), .lit (.int .u8 16), .lit (.int .u8 46), .lit (.int .u8 35), .lit (.int .u8 44), .lit (.int .u8 21), .lit (.int .u8 52), .lit (.int .u8 32), .lit (.int .u8 23), .lit (.int .u8 11), .lit (.int .u8 54), .lit (.int .u8 26), .lit (.int .u8 40), .lit (.int .u8 15), .lit (.int .u8 34), .lit (.int .u8 20), .lit (.int .u8 31), .lit (.int .u8 10), .lit (.int .u8 25), .lit (.int .u8 14), .lit (.int .u8 19), .lit (.int .u8 9), .lit (.int .u8 13), .lit (.int .u8 8), .lit (.int .u8 7), .lit (.int .u8 6)]
def laid_math_bits_deBruijn32tab {H : Type} : DataW H := .agg [.lit (.int .u8 0), .lit (.int .u8 1), .lit (.int .u8 28), .lit (.int .u8 2), .lit (.int .u8 29), .lit (.int .u8 14), .lit (.int .u8 24), .lit (.int .u8 3), .lit (.int .u8 30), .lit (.int .u8 22), .lit (.int .u8 20), .lit (.int .u8 15), .lit (.int .u8 25), .lit (.int .u8 17), .lit (.int .u8 4), .lit (.int .u8 8), .lit (.int .u8 31), .lit (.int .u8 27), .lit (.int .u8 13), .lit (.int .u8 23), .lit (.int .u8 21), .lit (.int .u8 19), .lit (.int .u8 16), .lit (.int .u8 7), .lit (.int .u8 26), .lit (.int .u8 12), .lit (.int .u8 18), .lit (.int .u8 6), .lit (.int .u8 11), .lit (.int .u8 5), .lit (.int .u8 10), .lit (.int .u8 9)]
def laid_internal_strconv_uint64pow10 {H : Type} : DataW H := .agg [.lit (.int .u64 1), .lit (.int .u64 10), .lit (.int .u64 100), .lit (.int .u64 1000), .lit (.int .u64 10000), .lit (.int .u64 100000), .lit (.int .u64 1000000), .lit (.int .u64 10000000), .lit (.int .u64 100000000), .lit (.int .u64 1000000000), .lit (.int .u64 10000000000), .lit (.int .u64 100000000000), .lit (.int .u64 1000000000000), .lit (.int .u64 10000000000000), .lit (.int .u64 100000000000000), .lit (.int .u64 1000000000000000), .lit (.int .u64 10000000000000000), .lit (.int .u64 100000000000000000), .lit (.int .u64 1000000000000000000), .lit (.int .u64 10000000000000000000)]

/-- 'laws.FnMatchLong': WHATEVER THE INPUT: true; the input reads as it did. -/
def fnMatchLongSpec : ChangeSpec := { name := "fnMatchLong", vars := ["loop.example/carding/impl.errNoRex"], fn := fun _ => fun
  | [d, g1] => { results := [.lit (.bool true)], args := [d], vars := [g1] }
  | _ => none }
def fnMatchLongRow : OpenClaim := { program := "ytbnllbhlmnkgcaadoor", sum := "531b61fd9c75b6d0c0c6f588e2b59d76144d2ed6b0eefed713b2f18729e9d3e5", func := "loop.example/carding/laws.FnMatchLong", spec := "fnMatchLong", unfollowed := true, recurses := true, named := ["loop.example/carding/impl.errNoRex"], ifaces := true, plainKeys := false, apart := false, laid := [("loop.example/carding/impl.errNoRex", laid_loop_example_carding_impl_errNoRex)] }
def FnMatchLongSaid : Prop := fnMatchLongRow.holds Tryd.pinned (OpenSpec.ofChange fnMatchLongSpec)

/-- ITS FALSE NEIGHBOUR: 'it returns false'. Refute it at one input. -/
def fnMatchLongWrong : ChangeSpec := { name := "fnMatchLong", vars := ["loop.example/carding/impl.errNoRex"], fn := fun _ => fun
  | [d, g1] => { results := [.lit (.bool false)], args := [d], vars := [g1] }
  | _ => none }
def FnMatchLongWrongFalsely : Prop := fnMatchLongRow.holds Tryd.pinned (OpenSpec.ofChange fnMatchLongWrong)

/-- 'laws.FnMatchEnds': WHATEVER THE INPUT: true; the input reads as it did. -/
def fnMatchEndsSpec : ChangeSpec := { name := "fnMatchEnds", vars := ["loop.example/carding/impl.errNoRex"], fn := fun _ => fun
  | [d, g1] => { results := [.lit (.bool true)], args := [d], vars := [g1] }
  | _ => none }
def fnMatchEndsRow : OpenClaim := { program := "ytbnllbhlmnkgcaadoor", sum := "531b61fd9c75b6d0c0c6f588e2b59d76144d2ed6b0eefed713b2f18729e9d3e5", func := "loop.example/carding/laws.FnMatchEnds", spec := "fnMatchEnds", unfollowed := true, recurses := true, named := ["loop.example/carding/impl.errNoRex"], ifaces := true, plainKeys := false, apart := false, laid := [("loop.example/carding/impl.errNoRex", laid_loop_example_carding_impl_errNoRex)] }
def FnMatchEndsSaid : Prop := fnMatchEndsRow.holds Tryd.pinned (OpenSpec.ofChange fnMatchEndsSpec)

/-- ITS FALSE NEIGHBOUR: 'it returns false'. Refute it at one input. -/
def fnMatchEndsWrong : ChangeSpec := { name := "fnMatchEnds", vars := ["loop.example/carding/impl.errNoRex"], fn := fun _ => fun
  | [d, g1] => { results := [.lit (.bool false)], args := [d], vars := [g1] }
  | _ => none }
def FnMatchEndsWrongFalsely : Prop := fnMatchEndsRow.holds Tryd.pinned (OpenSpec.ofChange fnMatchEndsWrong)

/-- 'laws.FnExactSetParts': WHATEVER THE INPUT: true; the input reads as it did. -/
def fnExactSetPartsSpec : ChangeSpec := { name := "fnExactSetParts", fn := fun _ => fun
  | [d] => { results := [.lit (.bool true)], args := [d] }
  | _ => none }
def fnExactSetPartsRow : OpenClaim := { program := "ytbnllbhlmnkgcaadoor", sum := "531b61fd9c75b6d0c0c6f588e2b59d76144d2ed6b0eefed713b2f18729e9d3e5", func := "loop.example/carding/laws.FnExactSetParts", spec := "fnExactSetParts", unfollowed := true, recurses := true, named := ["math/bits.deBruijn64tab"], plainKeys := false, apart := false, laid := [("math/bits.deBruijn64tab", laid_math_bits_deBruijn64tab)] }
def FnExactSetPartsSaid : Prop := fnExactSetPartsRow.holds Tryd.pinned (OpenSpec.ofChange fnExactSetPartsSpec)

/-- ITS FALSE NEIGHBOUR: 'it returns false'. Refute it at one input. -/
def fnExactSetPartsWrong : ChangeSpec := { name := "fnExactSetParts", fn := fun _ => fun
  | [d] => { results := [.lit (.bool false)], args := [d] }
  | _ => none }
def FnExactSetPartsWrongFalsely : Prop := fnExactSetPartsRow.holds Tryd.pinned (OpenSpec.ofChange fnExactSetPartsWrong)

/-- 'laws.FnExactRexOk': WHATEVER THE INPUT: true; the input reads as it did. -/
def fnExactRexOkSpec : ChangeSpec := { name := "fnExactRexOk", vars := ["loop.example/carding/impl.errNoRex"], fn := fun _ => fun
  | [d, g1] => { results := [.lit (.bool true)], args := [d], vars := [g1] }
  | _ => none }
def fnExactRexOkRow : OpenClaim := { program := "ytbnllbhlmnkgcaadoor", sum := "531b61fd9c75b6d0c0c6f588e2b59d76144d2ed6b0eefed713b2f18729e9d3e5", func := "loop.example/carding/laws.FnExactRexOk", spec := "fnExactRexOk", unfollowed := true, recurses := true, named := ["loop.example/carding/impl.errNoRex"], ifaces := true, loops := true, plainKeys := false, apart := false, laid := [("loop.example/carding/impl.errNoRex", laid_loop_example_carding_impl_errNoRex)] }
def FnExactRexOkSaid : Prop := fnExactRexOkRow.holds Tryd.pinned (OpenSpec.ofChange fnExactRexOkSpec)

/-- ITS FALSE NEIGHBOUR: 'it returns false'. Refute it at one input. -/
def fnExactRexOkWrong : ChangeSpec := { name := "fnExactRexOk", vars := ["loop.example/carding/impl.errNoRex"], fn := fun _ => fun
  | [d, g1] => { results := [.lit (.bool false)], args := [d], vars := [g1] }
  | _ => none }
def FnExactRexOkWrongFalsely : Prop := fnExactRexOkRow.holds Tryd.pinned (OpenSpec.ofChange fnExactRexOkWrong)

/-- 'laws.FnExactRexMany': WHATEVER THE INPUT: true; the input reads as it did. -/
def fnExactRexManySpec : ChangeSpec := { name := "fnExactRexMany", vars := ["loop.example/carding/impl.errNoRex"], fn := fun _ => fun
  | [d, g1] => { results := [.lit (.bool true)], args := [d], vars := [g1] }
  | _ => none }
def fnExactRexManyRow : OpenClaim := { program := "ytbnllbhlmnkgcaadoor", sum := "531b61fd9c75b6d0c0c6f588e2b59d76144d2ed6b0eefed713b2f18729e9d3e5", func := "loop.example/carding/laws.FnExactRexMany", spec := "fnExactRexMany", unfollowed := true, recurses := true, named := ["loop.example/carding/impl.errNoRex"], ifaces := true, loops := true, plainKeys := false, apart := false, laid := [("loop.example/carding/impl.errNoRex", laid_loop_example_carding_impl_errNoRex)] }
def FnExactRexManySaid : Prop := fnExactRexManyRow.holds Tryd.pinned (OpenSpec.ofChange fnExactRexManySpec)

/-- ITS FALSE NEIGHBOUR: 'it returns false'. Refute it at one input. -/
def fnExactRexManyWrong : ChangeSpec := { name := "fnExactRexMany", vars := ["loop.example/carding/impl.errNoRex"], fn := fun _ => fun
  | [d, g1] => { results := [.lit (.bool false)], args := [d], vars := [g1] }
  | _ => none }
def FnExactRexManyWrongFalsely : Prop := fnExactRexManyRow.holds Tryd.pinned (OpenSpec.ofChange fnExactRexManyWrong)

/-- 'laws.FnExactRexNull': WHATEVER THE INPUT: true; the input reads as it did. -/
def fnExactRexNullSpec : ChangeSpec := { name := "fnExactRexNull", vars := ["loop.example/carding/impl.errNoRex"], fn := fun _ => fun
  | [d, g1] => { results := [.lit (.bool true)], args := [d], vars := [g1] }
  | _ => none }
def fnExactRexNullRow : OpenClaim := { program := "ytbnllbhlmnkgcaadoor", sum := "531b61fd9c75b6d0c0c6f588e2b59d76144d2ed6b0eefed713b2f18729e9d3e5", func := "loop.example/carding/laws.FnExactRexNull", spec := "fnExactRexNull", unfollowed := true, recurses := true, named := ["loop.example/carding/impl.errNoRex"], ifaces := true, loops := true, plainKeys := false, apart := false, laid := [("loop.example/carding/impl.errNoRex", laid_loop_example_carding_impl_errNoRex)] }
def FnExactRexNullSaid : Prop := fnExactRexNullRow.holds Tryd.pinned (OpenSpec.ofChange fnExactRexNullSpec)

/-- ITS FALSE NEIGHBOUR: 'it returns false'. Refute it at one input. -/
def fnExactRexNullWrong : ChangeSpec := { name := "fnExactRexNull", vars := ["loop.example/carding/impl.errNoRex"], fn := fun _ => fun
  | [d, g1] => { results := [.lit (.bool false)], args := [d], vars := [g1] }
  | _ => none }
def FnExactRexNullWrongFalsely : Prop := fnExactRexNullRow.holds Tryd.pinned (OpenSpec.ofChange fnExactRexNullWrong)

/-- 'laws.FnExactRexSets': WHATEVER THE INPUT: true; the input reads as it did. -/
def fnExactRexSetsSpec : ChangeSpec := { name := "fnExactRexSets", vars := ["loop.example/carding/impl.errNoRex"], fn := fun _ => fun
  | [d, g1] => { results := [.lit (.bool true)], args := [d], vars := [g1] }
  | _ => none }
def fnExactRexSetsRow : OpenClaim := { program := "ytbnllbhlmnkgcaadoor", sum := "531b61fd9c75b6d0c0c6f588e2b59d76144d2ed6b0eefed713b2f18729e9d3e5", func := "loop.example/carding/laws.FnExactRexSets", spec := "fnExactRexSets", unfollowed := true, recurses := true, named := ["loop.example/carding/impl.errNoRex"], ifaces := true, loops := true, plainKeys := false, apart := false, laid := [("loop.example/carding/impl.errNoRex", laid_loop_example_carding_impl_errNoRex)] }
def FnExactRexSetsSaid : Prop := fnExactRexSetsRow.holds Tryd.pinned (OpenSpec.ofChange fnExactRexSetsSpec)

/-- ITS FALSE NEIGHBOUR: 'it returns false'. Refute it at one input. -/
def fnExactRexSetsWrong : ChangeSpec := { name := "fnExactRexSets", vars := ["loop.example/carding/impl.errNoRex"], fn := fun _ => fun
  | [d, g1] => { results := [.lit (.bool false)], args := [d], vars := [g1] }
  | _ => none }
def FnExactRexSetsWrongFalsely : Prop := fnExactRexSetsRow.holds Tryd.pinned (OpenSpec.ofChange fnExactRexSetsWrong)

/-- 'laws.FnExactRexText': WHATEVER THE INPUT: true; the input reads as it did. -/
def fnExactRexTextSpec : ChangeSpec := { name := "fnExactRexText", vars := ["loop.example/carding/impl.errNoRex"], fn := fun _ => fun
  | [d, g1] => { results := [.lit (.bool true)], args := [d], vars := [g1] }
  | _ => none }
def fnExactRexTextRow : OpenClaim := { program := "ytbnllbhlmnkgcaadoor", sum := "531b61fd9c75b6d0c0c6f588e2b59d76144d2ed6b0eefed713b2f18729e9d3e5", func := "loop.example/carding/laws.FnExactRexText", spec := "fnExactRexText", inPlace := ["internal/abi.NoEscape", "internal/bytealg.MakeNoZero"], unfollowed := true, recurses := true, named := ["loop.example/carding/impl.errNoRex", "internal/strconv.uint64pow10", "math/bits.deBruijn32tab", "math/bits.deBruijn64tab"], ifaces := true, loops := true, plainKeys := false, apart := false, laid := [("math/bits.deBruijn32tab", laid_math_bits_deBruijn32tab), ("math/bits.deBruijn64tab", laid_math_bits_deBruijn64tab), ("internal/strconv.uint64pow10", laid_internal_strconv_uint64pow10), ("loop.example/carding/impl.errNoRex", laid_loop_example_carding_impl_errNoRex)] }
def FnExactRexTextSaid : Prop := fnExactRexTextRow.holds Tryd.pinned (OpenSpec.ofChange fnExactRexTextSpec)

/-- ITS FALSE NEIGHBOUR: 'it returns false'. Refute it at one input. -/
def fnExactRexTextWrong : ChangeSpec := { name := "fnExactRexText", vars := ["loop.example/carding/impl.errNoRex"], fn := fun _ => fun
  | [d, g1] => { results := [.lit (.bool false)], args := [d], vars := [g1] }
  | _ => none }
def FnExactRexTextWrongFalsely : Prop := fnExactRexTextRow.holds Tryd.pinned (OpenSpec.ofChange fnExactRexTextWrong)

/-- 'laws.FnExactMatchIs': WHATEVER THE INPUT: true; the input reads as it did. -/
def fnExactMatchIsSpec : ChangeSpec := { name := "fnExactMatchIs", vars := ["loop.example/carding/impl.errNoRex"], fn := fun _ => fun
  | [d1, d2, g1] => { results := [.lit (.bool true)], args := [d1, d2], vars := [g1] }
  | _ => none }
def fnExactMatchIsRow : OpenClaim := { program := "ytbnllbhlmnkgcaadoor", sum := "531b61fd9c75b6d0c0c6f588e2b59d76144d2ed6b0eefed713b2f18729e9d3e5", func := "loop.example/carding/laws.FnExactMatchIs", spec := "fnExactMatchIs", unfollowed := true, recurses := true, named := ["loop.example/carding/impl.errNoRex"], ifaces := true, loops := true, plainKeys := false, apart := false, laid := [("loop.example/carding/impl.errNoRex", laid_loop_example_carding_impl_errNoRex)] }
def FnExactMatchIsSaid : Prop := fnExactMatchIsRow.holds Tryd.pinned (OpenSpec.ofChange fnExactMatchIsSpec)

/-- ITS FALSE NEIGHBOUR: 'it returns false'. Refute it at one input. -/
def fnExactMatchIsWrong : ChangeSpec := { name := "fnExactMatchIs", vars := ["loop.example/carding/impl.errNoRex"], fn := fun _ => fun
  | [d1, d2, g1] => { results := [.lit (.bool false)], args := [d1, d2], vars := [g1] }
  | _ => none }
def FnExactMatchIsWrongFalsely : Prop := fnExactMatchIsRow.holds Tryd.pinned (OpenSpec.ofChange fnExactMatchIsWrong)

/-- 'laws.FnExactMatchLong': WHATEVER THE INPUT: true; the input reads as it did. -/
def fnExactMatchLongSpec : ChangeSpec := { name := "fnExactMatchLong", vars := ["loop.example/carding/impl.errNoRex"], fn := fun _ => fun
  | [d1, d2, d3, g1] => { results := [.lit (.bool true)], args := [d1, d2, d3], vars := [g1] }
  | _ => none }
def fnExactMatchLongRow : OpenClaim := { program := "ytbnllbhlmnkgcaadoor", sum := "531b61fd9c75b6d0c0c6f588e2b59d76144d2ed6b0eefed713b2f18729e9d3e5", func := "loop.example/carding/laws.FnExactMatchLong", spec := "fnExactMatchLong", unfollowed := true, recurses := true, named := ["loop.example/carding/impl.errNoRex"], ifaces := true, loops := true, plainKeys := false, apart := false, laid := [("loop.example/carding/impl.errNoRex", laid_loop_example_carding_impl_errNoRex)] }
def FnExactMatchLongSaid : Prop := fnExactMatchLongRow.holds Tryd.pinned (OpenSpec.ofChange fnExactMatchLongSpec)

/-- ITS FALSE NEIGHBOUR: 'it returns false'. Refute it at one input. -/
def fnExactMatchLongWrong : ChangeSpec := { name := "fnExactMatchLong", vars := ["loop.example/carding/impl.errNoRex"], fn := fun _ => fun
  | [d1, d2, d3, g1] => { results := [.lit (.bool false)], args := [d1, d2, d3], vars := [g1] }
  | _ => none }
def FnExactMatchLongWrongFalsely : Prop := fnExactMatchLongRow.holds Tryd.pinned (OpenSpec.ofChange fnExactMatchLongWrong)

/-- 'laws.FnExactNormCat': WHATEVER THE INPUT: true; the input reads as it did. -/
def fnExactNormCatSpec : ChangeSpec := { name := "fnExactNormCat", vars := ["loop.example/carding/impl.errNoRex"], fn := fun _ => fun
  | [d1, d2, g1] => { results := [.lit (.bool true)], args := [d1, d2], vars := [g1] }
  | _ => none }
def fnExactNormCatRow : OpenClaim := { program := "ytbnllbhlmnkgcaadoor", sum := "531b61fd9c75b6d0c0c6f588e2b59d76144d2ed6b0eefed713b2f18729e9d3e5", func := "loop.example/carding/laws.FnExactNormCat", spec := "fnExactNormCat", unfollowed := true, recurses := true, named := ["loop.example/carding/impl.errNoRex"], ifaces := true, loops := true, plainKeys := false, apart := false, laid := [("loop.example/carding/impl.errNoRex", laid_loop_example_carding_impl_errNoRex)] }
def FnExactNormCatSaid : Prop := fnExactNormCatRow.holds Tryd.pinned (OpenSpec.ofChange fnExactNormCatSpec)

/-- ITS FALSE NEIGHBOUR: 'it returns false'. Refute it at one input. -/
def fnExactNormCatWrong : ChangeSpec := { name := "fnExactNormCat", vars := ["loop.example/carding/impl.errNoRex"], fn := fun _ => fun
  | [d1, d2, g1] => { results := [.lit (.bool false)], args := [d1, d2], vars := [g1] }
  | _ => none }
def FnExactNormCatWrongFalsely : Prop := fnExactNormCatRow.holds Tryd.pinned (OpenSpec.ofChange fnExactNormCatWrong)

/-- 'laws.FnExactNormStar': WHATEVER THE INPUT: true; the input reads as it did. -/
def fnExactNormStarSpec : ChangeSpec := { name := "fnExactNormStar", vars := ["loop.example/carding/impl.errNoRex"], fn := fun _ => fun
  | [d, g1] => { results := [.lit (.bool true)], args := [d], vars := [g1] }
  | _ => none }
def fnExactNormStarRow : OpenClaim := { program := "ytbnllbhlmnkgcaadoor", sum := "531b61fd9c75b6d0c0c6f588e2b59d76144d2ed6b0eefed713b2f18729e9d3e5", func := "loop.example/carding/laws.FnExactNormStar", spec := "fnExactNormStar", unfollowed := true, recurses := true, named := ["loop.example/carding/impl.errNoRex"], ifaces := true, loops := true, plainKeys := false, apart := false, laid := [("loop.example/carding/impl.errNoRex", laid_loop_example_carding_impl_errNoRex)] }
def FnExactNormStarSaid : Prop := fnExactNormStarRow.holds Tryd.pinned (OpenSpec.ofChange fnExactNormStarSpec)

/-- ITS FALSE NEIGHBOUR: 'it returns false'. Refute it at one input. -/
def fnExactNormStarWrong : ChangeSpec := { name := "fnExactNormStar", vars := ["loop.example/carding/impl.errNoRex"], fn := fun _ => fun
  | [d, g1] => { results := [.lit (.bool false)], args := [d], vars := [g1] }
  | _ => none }
def FnExactNormStarWrongFalsely : Prop := fnExactNormStarRow.holds Tryd.pinned (OpenSpec.ofChange fnExactNormStarWrong)

/-- 'laws.FnExactNormNot': WHATEVER THE INPUT: true; the input reads as it did. -/
def fnExactNormNotSpec : ChangeSpec := { name := "fnExactNormNot", vars := ["loop.example/carding/impl.errNoRex"], fn := fun _ => fun
  | [d, g1] => { results := [.lit (.bool true)], args := [d], vars := [g1] }
  | _ => none }
def fnExactNormNotRow : OpenClaim := { program := "ytbnllbhlmnkgcaadoor", sum := "531b61fd9c75b6d0c0c6f588e2b59d76144d2ed6b0eefed713b2f18729e9d3e5", func := "loop.example/carding/laws.FnExactNormNot", spec := "fnExactNormNot", unfollowed := true, recurses := true, named := ["loop.example/carding/impl.errNoRex"], ifaces := true, loops := true, plainKeys := false, apart := false, laid := [("loop.example/carding/impl.errNoRex", laid_loop_example_carding_impl_errNoRex)] }
def FnExactNormNotSaid : Prop := fnExactNormNotRow.holds Tryd.pinned (OpenSpec.ofChange fnExactNormNotSpec)

/-- ITS FALSE NEIGHBOUR: 'it returns false'. Refute it at one input. -/
def fnExactNormNotWrong : ChangeSpec := { name := "fnExactNormNot", vars := ["loop.example/carding/impl.errNoRex"], fn := fun _ => fun
  | [d, g1] => { results := [.lit (.bool false)], args := [d], vars := [g1] }
  | _ => none }
def FnExactNormNotWrongFalsely : Prop := fnExactNormNotRow.holds Tryd.pinned (OpenSpec.ofChange fnExactNormNotWrong)

/- THE SECOND FORM. 'bulk': how many values and letters a reading holds, each counted each time it is reached (what is shared counts as often as it is met; a slice's spare places count too). A statement '..UptoSaid' is the law's where the arguments, and the package variables that the reading takes, are together of bulk at most 1048576: NARROWER than '..Said'. Prove '..Said' where nothing that the law and all that it calls make is longer than what came in: it says more and counts as full. Else prove '..UptoSaid'. A law counts once. -/
mutual
def uptoBulk {H : Type} : DataW H → Nat
  | .lit (.string bytes) => bytes.length + 1
  | .lit _ => 1
  | .nil => 1
  | .ptr d => uptoBulk d + 1
  | .slice elems spare => uptoBulkAll elems + uptoBulkAll spare + 1
  | .agg parts => uptoBulkAll parts + 1
  | .iface _ d => uptoBulk d + 1
  | .map entries => uptoBulkEntries entries + 1
  | .held _ => 1
def uptoBulkAll {H : Type} : List (DataW H) → Nat
  | [] => 0
  | d :: r => uptoBulk d + uptoBulkAll r
def uptoBulkEntries {H : Type} : List (Lit × DataW H) → Nat
  | [] => 0
  | x :: r => uptoBulkEntry x + uptoBulkEntries r
def uptoBulkEntry {H : Type} : Lit × DataW H → Nat
  | (.string bytes, d) => bytes.length + uptoBulk d + 1
  | (_, d) => uptoBulk d + 1
 end
def uptoSmall : (H : Type) → List (DataW H) → Bool := fun _ ds => decide (uptoBulkAll ds ≤ 1048576)
def OpenSpec.upto (s : _root_.Go.ChangeSpec) : _root_.Go.OpenSpec := { _root_.Go.OpenSpec.ofChange s with cond := some uptoSmall }

/-- 'laws.FnMatchLong', WHERE WHAT IT READS IS OF BULK AT MOST 1048576: true; the input reads as it did. -/
def fnMatchLongUptoRow : OpenClaim := { program := "ytbnllbhlmnkgcaadoor", sum := "531b61fd9c75b6d0c0c6f588e2b59d76144d2ed6b0eefed713b2f18729e9d3e5", func := "loop.example/carding/laws.FnMatchLong", spec := "fnMatchLong", unfollowed := true, recurses := true, named := ["loop.example/carding/impl.errNoRex"], ifaces := true, plainKeys := false, apart := false, laid := [("loop.example/carding/impl.errNoRex", laid_loop_example_carding_impl_errNoRex)], narrowed := true }
def FnMatchLongUptoSaid : Prop := fnMatchLongUptoRow.holds Tryd.pinned (OpenSpec.upto fnMatchLongSpec)

/-- 'laws.FnMatchEnds', WHERE WHAT IT READS IS OF BULK AT MOST 1048576: true; the input reads as it did. -/
def fnMatchEndsUptoRow : OpenClaim := { program := "ytbnllbhlmnkgcaadoor", sum := "531b61fd9c75b6d0c0c6f588e2b59d76144d2ed6b0eefed713b2f18729e9d3e5", func := "loop.example/carding/laws.FnMatchEnds", spec := "fnMatchEnds", unfollowed := true, recurses := true, named := ["loop.example/carding/impl.errNoRex"], ifaces := true, plainKeys := false, apart := false, laid := [("loop.example/carding/impl.errNoRex", laid_loop_example_carding_impl_errNoRex)], narrowed := true }
def FnMatchEndsUptoSaid : Prop := fnMatchEndsUptoRow.holds Tryd.pinned (OpenSpec.upto fnMatchEndsSpec)

/-- 'laws.FnExactSetParts', WHERE WHAT IT READS IS OF BULK AT MOST 1048576: true; the input reads as it did. -/
def fnExactSetPartsUptoRow : OpenClaim := { program := "ytbnllbhlmnkgcaadoor", sum := "531b61fd9c75b6d0c0c6f588e2b59d76144d2ed6b0eefed713b2f18729e9d3e5", func := "loop.example/carding/laws.FnExactSetParts", spec := "fnExactSetParts", unfollowed := true, recurses := true, named := ["math/bits.deBruijn64tab"], plainKeys := false, apart := false, laid := [("math/bits.deBruijn64tab", laid_math_bits_deBruijn64tab)], narrowed := true }
def FnExactSetPartsUptoSaid : Prop := fnExactSetPartsUptoRow.holds Tryd.pinned (OpenSpec.upto fnExactSetPartsSpec)

/-- 'laws.FnExactRexOk', WHERE WHAT IT READS IS OF BULK AT MOST 1048576: true; the input reads as it did. -/
def fnExactRexOkUptoRow : OpenClaim := { program := "ytbnllbhlmnkgcaadoor", sum := "531b61fd9c75b6d0c0c6f588e2b59d76144d2ed6b0eefed713b2f18729e9d3e5", func := "loop.example/carding/laws.FnExactRexOk", spec := "fnExactRexOk", unfollowed := true, recurses := true, named := ["loop.example/carding/impl.errNoRex"], ifaces := true, loops := true, plainKeys := false, apart := false, laid := [("loop.example/carding/impl.errNoRex", laid_loop_example_carding_impl_errNoRex)], narrowed := true }
def FnExactRexOkUptoSaid : Prop := fnExactRexOkUptoRow.holds Tryd.pinned (OpenSpec.upto fnExactRexOkSpec)

/-- 'laws.FnExactRexMany', WHERE WHAT IT READS IS OF BULK AT MOST 1048576: true; the input reads as it did. -/
def fnExactRexManyUptoRow : OpenClaim := { program := "ytbnllbhlmnkgcaadoor", sum := "531b61fd9c75b6d0c0c6f588e2b59d76144d2ed6b0eefed713b2f18729e9d3e5", func := "loop.example/carding/laws.FnExactRexMany", spec := "fnExactRexMany", unfollowed := true, recurses := true, named := ["loop.example/carding/impl.errNoRex"], ifaces := true, loops := true, plainKeys := false, apart := false, laid := [("loop.example/carding/impl.errNoRex", laid_loop_example_carding_impl_errNoRex)], narrowed := true }
def FnExactRexManyUptoSaid : Prop := fnExactRexManyUptoRow.holds Tryd.pinned (OpenSpec.upto fnExactRexManySpec)

/-- 'laws.FnExactRexNull', WHERE WHAT IT READS IS OF BULK AT MOST 1048576: true; the input reads as it did. -/
def fnExactRexNullUptoRow : OpenClaim := { program := "ytbnllbhlmnkgcaadoor", sum := "531b61fd9c75b6d0c0c6f588e2b59d76144d2ed6b0eefed713b2f18729e9d3e5", func := "loop.example/carding/laws.FnExactRexNull", spec := "fnExactRexNull", unfollowed := true, recurses := true, named := ["loop.example/carding/impl.errNoRex"], ifaces := true, loops := true, plainKeys := false, apart := false, laid := [("loop.example/carding/impl.errNoRex", laid_loop_example_carding_impl_errNoRex)], narrowed := true }
def FnExactRexNullUptoSaid : Prop := fnExactRexNullUptoRow.holds Tryd.pinned (OpenSpec.upto fnExactRexNullSpec)

/-- 'laws.FnExactRexSets', WHERE WHAT IT READS IS OF BULK AT MOST 1048576: true; the input reads as it did. -/
def fnExactRexSetsUptoRow : OpenClaim := { program := "ytbnllbhlmnkgcaadoor", sum := "531b61fd9c75b6d0c0c6f588e2b59d76144d2ed6b0eefed713b2f18729e9d3e5", func := "loop.example/carding/laws.FnExactRexSets", spec := "fnExactRexSets", unfollowed := true, recurses := true, named := ["loop.example/carding/impl.errNoRex"], ifaces := true, loops := true, plainKeys := false, apart := false, laid := [("loop.example/carding/impl.errNoRex", laid_loop_example_carding_impl_errNoRex)], narrowed := true }
def FnExactRexSetsUptoSaid : Prop := fnExactRexSetsUptoRow.holds Tryd.pinned (OpenSpec.upto fnExactRexSetsSpec)

/-- 'laws.FnExactRexText', WHERE WHAT IT READS IS OF BULK AT MOST 1048576: true; the input reads as it did. -/
def fnExactRexTextUptoRow : OpenClaim := { program := "ytbnllbhlmnkgcaadoor", sum := "531b61fd9c75b6d0c0c6f588e2b59d76144d2ed6b0eefed713b2f18729e9d3e5", func := "loop.example/carding/laws.FnExactRexText", spec := "fnExactRexText", inPlace := ["internal/abi.NoEscape", "internal/bytealg.MakeNoZero"], unfollowed := true, recurses := true, named := ["loop.example/carding/impl.errNoRex", "internal/strconv.uint64pow10", "math/bits.deBruijn32tab", "math/bits.deBruijn64tab"], ifaces := true, loops := true, plainKeys := false, apart := false, laid := [("math/bits.deBruijn32tab", laid_math_bits_deBruijn32tab), ("math/bits.deBruijn64tab", laid_math_bits_deBruijn64tab), ("internal/strconv.uint64pow10", laid_internal_strconv_uint64pow10), ("loop.example/carding/impl.errNoRex", laid_loop_example_carding_impl_errNoRex)], narrowed := true }
def FnExactRexTextUptoSaid : Prop := fnExactRexTextUptoRow.holds Tryd.pinned (OpenSpec.upto fnExactRexTextSpec)

/-- 'laws.FnExactMatchIs', WHERE WHAT IT READS IS OF BULK AT MOST 1048576: true; the input reads as it did. -/
def fnExactMatchIsUptoRow : OpenClaim := { program := "ytbnllbhlmnkgcaadoor", sum := "531b61fd9c75b6d0c0c6f588e2b59d76144d2ed6b0eefed713b2f18729e9d3e5", func := "loop.example/carding/laws.FnExactMatchIs", spec := "fnExactMatchIs", unfollowed := true, recurses := true, named := ["loop.example/carding/impl.errNoRex"], ifaces := true, loops := true, plainKeys := false, apart := false, laid := [("loop.example/carding/impl.errNoRex", laid_loop_example_carding_impl_errNoRex)], narrowed := true }
def FnExactMatchIsUptoSaid : Prop := fnExactMatchIsUptoRow.holds Tryd.pinned (OpenSpec.upto fnExactMatchIsSpec)

/-- 'laws.FnExactMatchLong', WHERE WHAT IT READS IS OF BULK AT MOST 1048576: true; the input reads as it did. -/
def fnExactMatchLongUptoRow : OpenClaim := { program := "ytbnllbhlmnkgcaadoor", sum := "531b61fd9c75b6d0c0c6f588e2b59d76144d2ed6b0eefed713b2f18729e9d3e5", func := "loop.example/carding/laws.FnExactMatchLong", spec := "fnExactMatchLong", unfollowed := true, recurses := true, named := ["loop.example/carding/impl.errNoRex"], ifaces := true, loops := true, plainKeys := false, apart := false, laid := [("loop.example/carding/impl.errNoRex", laid_loop_example_carding_impl_errNoRex)], narrowed := true }
def FnExactMatchLongUptoSaid : Prop := fnExactMatchLongUptoRow.holds Tryd.pinned (OpenSpec.upto fnExactMatchLongSpec)

/-- 'laws.FnExactNormCat', WHERE WHAT IT READS IS OF BULK AT MOST 1048576: true; the input reads as it did. -/
def fnExactNormCatUptoRow : OpenClaim := { program := "ytbnllbhlmnkgcaadoor", sum := "531b61fd9c75b6d0c0c6f588e2b59d76144d2ed6b0eefed713b2f18729e9d3e5", func := "loop.example/carding/laws.FnExactNormCat", spec := "fnExactNormCat", unfollowed := true, recurses := true, named := ["loop.example/carding/impl.errNoRex"], ifaces := true, loops := true, plainKeys := false, apart := false, laid := [("loop.example/carding/impl.errNoRex", laid_loop_example_carding_impl_errNoRex)], narrowed := true }
def FnExactNormCatUptoSaid : Prop := fnExactNormCatUptoRow.holds Tryd.pinned (OpenSpec.upto fnExactNormCatSpec)

/-- 'laws.FnExactNormStar', WHERE WHAT IT READS IS OF BULK AT MOST 1048576: true; the input reads as it did. -/
def fnExactNormStarUptoRow : OpenClaim := { program := "ytbnllbhlmnkgcaadoor", sum := "531b61fd9c75b6d0c0c6f588e2b59d76144d2ed6b0eefed713b2f18729e9d3e5", func := "loop.example/carding/laws.FnExactNormStar", spec := "fnExactNormStar", unfollowed := true, recurses := true, named := ["loop.example/carding/impl.errNoRex"], ifaces := true, loops := true, plainKeys := false, apart := false, laid := [("loop.example/carding/impl.errNoRex", laid_loop_example_carding_impl_errNoRex)], narrowed := true }
def FnExactNormStarUptoSaid : Prop := fnExactNormStarUptoRow.holds Tryd.pinned (OpenSpec.upto fnExactNormStarSpec)

/-- 'laws.FnExactNormNot', WHERE WHAT IT READS IS OF BULK AT MOST 1048576: true; the input reads as it did. -/
def fnExactNormNotUptoRow : OpenClaim := { program := "ytbnllbhlmnkgcaadoor", sum := "531b61fd9c75b6d0c0c6f588e2b59d76144d2ed6b0eefed713b2f18729e9d3e5", func := "loop.example/carding/laws.FnExactNormNot", spec := "fnExactNormNot", unfollowed := true, recurses := true, named := ["loop.example/carding/impl.errNoRex"], ifaces := true, loops := true, plainKeys := false, apart := false, laid := [("loop.example/carding/impl.errNoRex", laid_loop_example_carding_impl_errNoRex)], narrowed := true }
def FnExactNormNotUptoSaid : Prop := fnExactNormNotUptoRow.holds Tryd.pinned (OpenSpec.upto fnExactNormNotSpec)

end Rows
end Go.Proofs.YtbnllbhlmnkgcaaDoor
