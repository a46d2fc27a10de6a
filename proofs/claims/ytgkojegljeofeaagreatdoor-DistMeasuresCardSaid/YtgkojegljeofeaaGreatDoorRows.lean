/-
  NARROWER THAN 'FOR EVERY INPUT', by the rows' own cells (each row's printed sentence says how): DistNames: laid · DistMakes: laid · DistMeasures: laid · DistSets: laid · DistPushes: laid · DistProducts: laid · DistMixes: laid · DistFactors: laid · DistTriangle: laid.
  DERIVED. THE GIVEN ROWS OF THIS SEAT. 9 by the template 'for every input the law returns true; each argument reads behind the call as it read before'; 0 by the template 'total and deterministic' (their statements: YtgkojegljeofeaaGreatDoorTotals.lean).
  GIVEN WITH THE SEED: the statements are not yours to turn. If you find one false, say at which input.
  Laid BY PROGRAM, IN A SANDBOX (cutbox-rows.mjs): the forced cells as the released guide's own fill.sh prints them over the translation 4fa7a7ccfff2b273… (all of the seat's roots in one cut). By AI agents, Wed Nov 11 2026. No macro, syntax, notation, axiom, sorry.
-/
import Derived.Test.YtgkojegljeofeaaGreatDoorChecked
import GoSem.Claim
import GoSem.ClaimJoined
import GoSem.ClaimMapViews
import Derived.JoinedTies
import Derived.KernelRfl
namespace Go.Proofs.YtgkojegljeofeaaGreatDoor
/- THE CELL 'sum', in the pinned program and in every row, IS THE sha256 OF THE DUMP (.gsa) THAT YtgkojegljeofeaaGreatDoorProg.lean LOADS. Nothing in Lean hashes anything: it is a label: what it is worth is what the hold of that sum in a sandbox is worth. -/
noncomputable def Tryz.pinned : Pinned := { name := "ytgkojegljeofeaagreatdoor", sum := "4fa7a7ccfff2b273eb8cf7775c400d7d98fe8688993b4451a8e978a04590bc3e", checked := Tryz.checked }
namespace Rows
def none {H : Type} : Left H := { results := [], args := [] }

/- WHAT THE LISTED PACKAGE-LEVEL VARIABLES READ AS WHEN THE CALL BEGINS. Each datum BY PROGRAM (the guide's laid-datum.mjs) off the statement by which the dump's own 'gosem.cut.vars' lays the variable. In a bare row this is a premise. The card (YtgkojegljeofeaaGreatDoorCards.lean) ties it to the program's text. -/
def laid_math_bits_deBruijn32tab {H : Type} : DataW H := .agg [.lit (.int .u8 0), .lit (.int .u8 1), .lit (.int .u8 28), .lit (.int .u8 2), .lit (.int .u8 29), .lit (.int .u8 14), .lit (.int .u8 24), .lit (.int .u8 3), .lit (.int .u8 30), .lit (.int .u8 22), .lit (.int .u8 20), .lit (.int .u8 15), .lit (.int .u8 25), .lit (.int .u8 17), .lit (.int .u8 4), .lit (.int .u8 8), .lit (.int .u8 31), .lit (.int .u8 27), .lit (.int .u8 13), .lit (.int .u8 23), .lit (.int .u8 21), .lit (.int .u8 19), .lit (.int .u8 16), .lit (.int .u8 7), .lit (.int .u8 26), .lit (.int .u8 12), .lit (.int .u8 18), .lit (.int .u8 6), .lit (.int .u8 11), .lit (.int .u8 5), .lit (.int .u8 10), .lit (.int .u8 9)]
def laid_math_bits_deBruijn64tab {H : Type} : DataW H := .agg [.lit (.int .u8 0), .lit (.int .u8 1), .lit (.int .u8 56), .lit (.int .u8 2), .lit (.int .u8 57), .lit (.int .u8 49), .lit (.int .u8 28), .lit (.int .u8 3), .lit (.int .u8 61), .lit (.int .u8 58), .lit (.int .u8 42), .lit (.int .u8 50), .lit (.int .u8 38), .lit (.int .u8 29), .lit (.int .u8 17), .lit (.int .u8 4), .lit (.int .u8 62), .lit (.int .u8 47), .lit (.int .u8 59), .lit (.int .u8 36), .lit (.int .u8 45), .lit (.int .u8 43), .lit (.int .u8 51), .lit (.int .u8 22), .lit (.int .u8 53), .lit (.int .u8 39), .lit (.int .u8 33), .lit (.int .u8 30), .lit (.int .u8 24), .lit (.int .u8 18), .lit (.int .u8 12), .lit (.int .u8 5), .lit (.int .u8 63), .lit (.int .u8 55), .lit (.int .u8 48), .lit (.int .u8 27), .lit (.int .u8 60), .lit (.int .u8 41), .lit (.int .u8 37), .lit (.int .u8 16), .lit (.int .u8 46), .lit (.int .u8 35), .lit (.int .u8 44), .lit (.int .u8 21), .lit (.int .u8 52), .lit (.int .u8 32), .lit (.int .u8 23), .lit (.int .u8 11), .lit (.int .u8 54), .lit (.int .u8 26), .lit (.int .u8 40), .lit (.int .u8 15), .lit (.int .u8 34), .lit (.int .u8 20), .lit (.int .u8 31), .lit (.int .u8 10), .lit (.int .u8 25), .lit (.int .u8 14), .lit (.int .u8 19), .lit (.int .u8 9), .lit (.int .u8 13), .lit (.int .u8 8), .lit (.int .u8 7), .lit (.int .u8 6)]
def laid_internal_strconv_uint64pow10 {H : Type} : DataW H := .agg [.lit (.int .u64 1), .lit (.int .u64 10), .lit (.int .u64 100), .lit (.int .u64 1000), .lit (.int .u64 10000), .lit (.int .u64 100000), .lit (.int .u64 1000000), .lit (.int .u64 10000000), .lit (.int .u64 100000000), .lit (.int .u64 1000000000), .lit (.int .u64 10000000000), .lit (.int .u64 100000000000), .lit (.int .u64 1000000000000), .lit (.int .u64 10000000000000), .lit (.int .u64 100000000000000), .lit (.int .u64 1000000000000000), .lit (.int .u64 10000000000000000), .lit (.int .u64 100000000000000000), .lit (.int .u64 1000000000000000000), .lit (.int .u64 10000000000000000000)]

/-- 'privhouselaw08.DistNames': WHATEVER THE INPUT: true; the input reads as it did. -/
def distNamesSpec : ChangeSpec := { name := "distNames", fn := fun _ => fun
  | [] => { results := [.lit (.bool true)], args := [] }
  | _ => none }
def distNamesRow : OpenClaim := { program := "ytgkojegljeofeaagreatdoor", sum := "4fa7a7ccfff2b273eb8cf7775c400d7d98fe8688993b4451a8e978a04590bc3e", func := "privhouse/privhouselaw08.DistNames", spec := "distNames", inPlace := ["internal/bytealg.IndexByteString", "internal/bytealg.IndexString", "internal/abi.NoEscape", "internal/bytealg.MakeNoZero"], unfollowed := true, recurses := true, named := ["internal/bytealg.MaxLen", "internal/strconv.uint64pow10", "math/bits.deBruijn32tab", "math/bits.deBruijn64tab"], apart := false, laid := [("math/bits.deBruijn32tab", laid_math_bits_deBruijn32tab), ("math/bits.deBruijn64tab", laid_math_bits_deBruijn64tab), ("internal/strconv.uint64pow10", laid_internal_strconv_uint64pow10)] }
def DistNamesSaid : Prop := distNamesRow.holds Tryz.pinned (OpenSpec.ofChange distNamesSpec)

/-- ITS FALSE NEIGHBOUR: 'it returns false'. Refute it at one input. -/
def distNamesWrong : ChangeSpec := { name := "distNames", fn := fun _ => fun
  | [] => { results := [.lit (.bool false)], args := [] }
  | _ => none }
def DistNamesWrongFalsely : Prop := distNamesRow.holds Tryz.pinned (OpenSpec.ofChange distNamesWrong)

/-- 'privhouselaw08.DistMakes': WHATEVER THE INPUT: true; the input reads as it did. -/
def distMakesSpec : ChangeSpec := { name := "distMakes", fn := fun _ => fun
  | [d1, d2, d3, d4, d5, d6] => { results := [.lit (.bool true)], args := [d1, d2, d3, d4, d5, d6] }
  | _ => none }
def distMakesRow : OpenClaim := { program := "ytgkojegljeofeaagreatdoor", sum := "4fa7a7ccfff2b273eb8cf7775c400d7d98fe8688993b4451a8e978a04590bc3e", func := "privhouse/privhouselaw08.DistMakes", spec := "distMakes", inPlace := ["internal/bytealg.IndexByteString", "internal/bytealg.IndexString", "internal/abi.NoEscape", "internal/bytealg.MakeNoZero"], unfollowed := true, recurses := true, named := ["internal/bytealg.MaxLen", "internal/strconv.uint64pow10", "math/bits.deBruijn32tab", "math/bits.deBruijn64tab"], apart := false, laid := [("math/bits.deBruijn32tab", laid_math_bits_deBruijn32tab), ("math/bits.deBruijn64tab", laid_math_bits_deBruijn64tab), ("internal/strconv.uint64pow10", laid_internal_strconv_uint64pow10)] }
def DistMakesSaid : Prop := distMakesRow.holds Tryz.pinned (OpenSpec.ofChange distMakesSpec)

/-- ITS FALSE NEIGHBOUR: 'it returns false'. Refute it at one input. -/
def distMakesWrong : ChangeSpec := { name := "distMakes", fn := fun _ => fun
  | [d1, d2, d3, d4, d5, d6] => { results := [.lit (.bool false)], args := [d1, d2, d3, d4, d5, d6] }
  | _ => none }
def DistMakesWrongFalsely : Prop := distMakesRow.holds Tryz.pinned (OpenSpec.ofChange distMakesWrong)

/-- 'privhouselaw08.DistMeasures': WHATEVER THE INPUT: true; the input reads as it did. -/
def distMeasuresSpec : ChangeSpec := { name := "distMeasures", fn := fun _ => fun
  | [d1, d2, d3, d4] => { results := [.lit (.bool true)], args := [d1, d2, d3, d4] }
  | _ => none }
def distMeasuresRow : OpenClaim := { program := "ytgkojegljeofeaagreatdoor", sum := "4fa7a7ccfff2b273eb8cf7775c400d7d98fe8688993b4451a8e978a04590bc3e", func := "privhouse/privhouselaw08.DistMeasures", spec := "distMeasures", inPlace := ["internal/bytealg.IndexByteString", "internal/bytealg.IndexString", "internal/abi.NoEscape", "internal/bytealg.MakeNoZero"], unfollowed := true, recurses := true, named := ["internal/bytealg.MaxLen", "internal/strconv.uint64pow10", "math/bits.deBruijn32tab", "math/bits.deBruijn64tab"], apart := false, laid := [("math/bits.deBruijn32tab", laid_math_bits_deBruijn32tab), ("math/bits.deBruijn64tab", laid_math_bits_deBruijn64tab), ("internal/strconv.uint64pow10", laid_internal_strconv_uint64pow10)] }
def DistMeasuresSaid : Prop := distMeasuresRow.holds Tryz.pinned (OpenSpec.ofChange distMeasuresSpec)

/-- ITS FALSE NEIGHBOUR: 'it returns false'. Refute it at one input. -/
def distMeasuresWrong : ChangeSpec := { name := "distMeasures", fn := fun _ => fun
  | [d1, d2, d3, d4] => { results := [.lit (.bool false)], args := [d1, d2, d3, d4] }
  | _ => none }
def DistMeasuresWrongFalsely : Prop := distMeasuresRow.holds Tryz.pinned (OpenSpec.ofChange distMeasuresWrong)

/-- 'privhouselaw08.DistSets': WHATEVER THE INPUT: true; the input reads as it did. -/
def distSetsSpec : ChangeSpec := { name := "distSets", fn := fun _ => fun
  | [d1, d2, d3, d4] => { results := [.lit (.bool true)], args := [d1, d2, d3, d4] }
  | _ => none }
def distSetsRow : OpenClaim := { program := "ytgkojegljeofeaagreatdoor", sum := "4fa7a7ccfff2b273eb8cf7775c400d7d98fe8688993b4451a8e978a04590bc3e", func := "privhouse/privhouselaw08.DistSets", spec := "distSets", inPlace := ["internal/bytealg.IndexByteString", "internal/bytealg.IndexString", "internal/abi.NoEscape", "internal/bytealg.MakeNoZero"], unfollowed := true, recurses := true, named := ["internal/bytealg.MaxLen", "internal/strconv.uint64pow10", "math/bits.deBruijn32tab", "math/bits.deBruijn64tab"], apart := false, laid := [("math/bits.deBruijn32tab", laid_math_bits_deBruijn32tab), ("math/bits.deBruijn64tab", laid_math_bits_deBruijn64tab), ("internal/strconv.uint64pow10", laid_internal_strconv_uint64pow10)] }
def DistSetsSaid : Prop := distSetsRow.holds Tryz.pinned (OpenSpec.ofChange distSetsSpec)

/-- ITS FALSE NEIGHBOUR: 'it returns false'. Refute it at one input. -/
def distSetsWrong : ChangeSpec := { name := "distSets", fn := fun _ => fun
  | [d1, d2, d3, d4] => { results := [.lit (.bool false)], args := [d1, d2, d3, d4] }
  | _ => none }
def DistSetsWrongFalsely : Prop := distSetsRow.holds Tryz.pinned (OpenSpec.ofChange distSetsWrong)

/-- 'privhouselaw08.DistPushes': WHATEVER THE INPUT: true; the input reads as it did. -/
def distPushesSpec : ChangeSpec := { name := "distPushes", fn := fun _ => fun
  | [d1, d2, d3, d4, d5] => { results := [.lit (.bool true)], args := [d1, d2, d3, d4, d5] }
  | _ => none }
def distPushesRow : OpenClaim := { program := "ytgkojegljeofeaagreatdoor", sum := "4fa7a7ccfff2b273eb8cf7775c400d7d98fe8688993b4451a8e978a04590bc3e", func := "privhouse/privhouselaw08.DistPushes", spec := "distPushes", inPlace := ["internal/bytealg.IndexByteString", "internal/bytealg.IndexString", "internal/abi.NoEscape", "internal/bytealg.MakeNoZero"], unfollowed := true, recurses := true, named := ["internal/bytealg.MaxLen", "internal/strconv.uint64pow10", "math/bits.deBruijn32tab", "math/bits.deBruijn64tab"], apart := false, laid := [("math/bits.deBruijn32tab", laid_math_bits_deBruijn32tab), ("math/bits.deBruijn64tab", laid_math_bits_deBruijn64tab), ("internal/strconv.uint64pow10", laid_internal_strconv_uint64pow10)] }
def DistPushesSaid : Prop := distPushesRow.holds Tryz.pinned (OpenSpec.ofChange distPushesSpec)

/-- ITS FALSE NEIGHBOUR: 'it returns false'. Refute it at one input. -/
def distPushesWrong : ChangeSpec := { name := "distPushes", fn := fun _ => fun
  | [d1, d2, d3, d4, d5] => { results := [.lit (.bool false)], args := [d1, d2, d3, d4, d5] }
  | _ => none }
def DistPushesWrongFalsely : Prop := distPushesRow.holds Tryz.pinned (OpenSpec.ofChange distPushesWrong)

/-- 'privhouselaw08.DistProducts': WHATEVER THE INPUT: true; the input reads as it did. -/
def distProductsSpec : ChangeSpec := { name := "distProducts", fn := fun _ => fun
  | [d1, d2, d3, d4, d5, d6, d7] => { results := [.lit (.bool true)], args := [d1, d2, d3, d4, d5, d6, d7] }
  | _ => none }
def distProductsRow : OpenClaim := { program := "ytgkojegljeofeaagreatdoor", sum := "4fa7a7ccfff2b273eb8cf7775c400d7d98fe8688993b4451a8e978a04590bc3e", func := "privhouse/privhouselaw08.DistProducts", spec := "distProducts", inPlace := ["internal/bytealg.IndexByteString", "internal/bytealg.IndexString", "internal/abi.NoEscape", "internal/bytealg.MakeNoZero"], unfollowed := true, recurses := true, named := ["internal/bytealg.MaxLen", "internal/strconv.uint64pow10", "math/bits.deBruijn32tab", "math/bits.deBruijn64tab"], apart := false, laid := [("math/bits.deBruijn32tab", laid_math_bits_deBruijn32tab), ("math/bits.deBruijn64tab", laid_math_bits_deBruijn64tab), ("internal/strconv.uint64pow10", laid_internal_strconv_uint64pow10)] }
def DistProductsSaid : Prop := distProductsRow.holds Tryz.pinned (OpenSpec.ofChange distProductsSpec)

/-- ITS FALSE NEIGHBOUR: 'it returns false'. Refute it at one input. -/
def distProductsWrong : ChangeSpec := { name := "distProducts", fn := fun _ => fun
  | [d1, d2, d3, d4, d5, d6, d7] => { results := [.lit (.bool false)], args := [d1, d2, d3, d4, d5, d6, d7] }
  | _ => none }
def DistProductsWrongFalsely : Prop := distProductsRow.holds Tryz.pinned (OpenSpec.ofChange distProductsWrong)

/-- 'privhouselaw08.DistMixes': WHATEVER THE INPUT: true; the input reads as it did. -/
def distMixesSpec : ChangeSpec := { name := "distMixes", fn := fun _ => fun
  | [d1, d2, d3, d4, d5, d6] => { results := [.lit (.bool true)], args := [d1, d2, d3, d4, d5, d6] }
  | _ => none }
def distMixesRow : OpenClaim := { program := "ytgkojegljeofeaagreatdoor", sum := "4fa7a7ccfff2b273eb8cf7775c400d7d98fe8688993b4451a8e978a04590bc3e", func := "privhouse/privhouselaw08.DistMixes", spec := "distMixes", inPlace := ["internal/bytealg.IndexByteString", "internal/bytealg.IndexString", "internal/abi.NoEscape", "internal/bytealg.MakeNoZero"], unfollowed := true, recurses := true, named := ["internal/bytealg.MaxLen", "internal/strconv.uint64pow10", "math/bits.deBruijn32tab", "math/bits.deBruijn64tab"], apart := false, laid := [("math/bits.deBruijn32tab", laid_math_bits_deBruijn32tab), ("math/bits.deBruijn64tab", laid_math_bits_deBruijn64tab), ("internal/strconv.uint64pow10", laid_internal_strconv_uint64pow10)] }
def DistMixesSaid : Prop := distMixesRow.holds Tryz.pinned (OpenSpec.ofChange distMixesSpec)

/-- ITS FALSE NEIGHBOUR: 'it returns false'. Refute it at one input. -/
def distMixesWrong : ChangeSpec := { name := "distMixes", fn := fun _ => fun
  | [d1, d2, d3, d4, d5, d6] => { results := [.lit (.bool false)], args := [d1, d2, d3, d4, d5, d6] }
  | _ => none }
def DistMixesWrongFalsely : Prop := distMixesRow.holds Tryz.pinned (OpenSpec.ofChange distMixesWrong)

/-- 'privhouselaw08.DistFactors': WHATEVER THE INPUT: true; the input reads as it did. -/
def distFactorsSpec : ChangeSpec := { name := "distFactors", fn := fun _ => fun
  | [d1, d2, d3] => { results := [.lit (.bool true)], args := [d1, d2, d3] }
  | _ => none }
def distFactorsRow : OpenClaim := { program := "ytgkojegljeofeaagreatdoor", sum := "4fa7a7ccfff2b273eb8cf7775c400d7d98fe8688993b4451a8e978a04590bc3e", func := "privhouse/privhouselaw08.DistFactors", spec := "distFactors", inPlace := ["internal/bytealg.IndexByteString", "internal/bytealg.IndexString", "internal/abi.NoEscape", "internal/bytealg.MakeNoZero"], unfollowed := true, recurses := true, named := ["internal/bytealg.MaxLen", "internal/strconv.uint64pow10", "math/bits.deBruijn32tab", "math/bits.deBruijn64tab"], apart := false, laid := [("math/bits.deBruijn32tab", laid_math_bits_deBruijn32tab), ("math/bits.deBruijn64tab", laid_math_bits_deBruijn64tab), ("internal/strconv.uint64pow10", laid_internal_strconv_uint64pow10)] }
def DistFactorsSaid : Prop := distFactorsRow.holds Tryz.pinned (OpenSpec.ofChange distFactorsSpec)

/-- ITS FALSE NEIGHBOUR: 'it returns false'. Refute it at one input. -/
def distFactorsWrong : ChangeSpec := { name := "distFactors", fn := fun _ => fun
  | [d1, d2, d3] => { results := [.lit (.bool false)], args := [d1, d2, d3] }
  | _ => none }
def DistFactorsWrongFalsely : Prop := distFactorsRow.holds Tryz.pinned (OpenSpec.ofChange distFactorsWrong)

/-- 'privhouselaw08.DistTriangle': WHATEVER THE INPUT: true; the input reads as it did. -/
def distTriangleSpec : ChangeSpec := { name := "distTriangle", fn := fun _ => fun
  | [d1, d2, d3] => { results := [.lit (.bool true)], args := [d1, d2, d3] }
  | _ => none }
def distTriangleRow : OpenClaim := { program := "ytgkojegljeofeaagreatdoor", sum := "4fa7a7ccfff2b273eb8cf7775c400d7d98fe8688993b4451a8e978a04590bc3e", func := "privhouse/privhouselaw08.DistTriangle", spec := "distTriangle", inPlace := ["internal/bytealg.IndexByteString", "internal/bytealg.IndexString", "internal/abi.NoEscape", "internal/bytealg.MakeNoZero"], unfollowed := true, recurses := true, named := ["internal/bytealg.MaxLen", "internal/strconv.uint64pow10", "math/bits.deBruijn32tab", "math/bits.deBruijn64tab"], apart := false, laid := [("math/bits.deBruijn32tab", laid_math_bits_deBruijn32tab), ("math/bits.deBruijn64tab", laid_math_bits_deBruijn64tab), ("internal/strconv.uint64pow10", laid_internal_strconv_uint64pow10)] }
def DistTriangleSaid : Prop := distTriangleRow.holds Tryz.pinned (OpenSpec.ofChange distTriangleSpec)

/-- ITS FALSE NEIGHBOUR: 'it returns false'. Refute it at one input. -/
def distTriangleWrong : ChangeSpec := { name := "distTriangle", fn := fun _ => fun
  | [d1, d2, d3] => { results := [.lit (.bool false)], args := [d1, d2, d3] }
  | _ => none }
def DistTriangleWrongFalsely : Prop := distTriangleRow.holds Tryz.pinned (OpenSpec.ofChange distTriangleWrong)

/- THE SECOND FORM. 'bulk': how many values and letters a reading holds, each counted each time it is reached (what is shared counts as often as it is met; a slice's spare places count too). A statement '..UptoSaid' is the law's where the arguments, and the package variables that the reading takes, are together of bulk at most 1048576: NARROWER than '..Said'. Prove '..Said' where nothing that the law and all that it calls make is longer than what came in: it says more and counts as full. Else prove '..UptoSaid'. A law counts once. -/
mutual
def uptoBulk {H : Type} : DataW H → Nat
  | .lit (.string bytes) => bytes.length + 1
  | .lit _ => 1
  | .nil => 1
  | .ptr d => uptoBulk d + 1
  | .slice elems spare => uptoBulkAll elems + uptoBulkAll spare + 1
  | .agg parts => uptoBulkAll parts + 1
  | .iface _ d => uptoBulk d + 1
  | .map entries => uptoBulkEntries entries + 1
  | .held _ => 1
def uptoBulkAll {H : Type} : List (DataW H) → Nat
  | [] => 0
  | d :: r => uptoBulk d + uptoBulkAll r
def uptoBulkEntries {H : Type} : List (Lit × DataW H) → Nat
  | [] => 0
  | x :: r => uptoBulkEntry x + uptoBulkEntries r
def uptoBulkEntry {H : Type} : Lit × DataW H → Nat
  | (.string bytes, d) => bytes.length + uptoBulk d + 1
  | (_, d) => uptoBulk d + 1
 end
def uptoSmall : (H : Type) → List (DataW H) → Bool := fun _ ds => decide (uptoBulkAll ds ≤ 1048576)
def OpenSpec.upto (s : _root_.Go.ChangeSpec) : _root_.Go.OpenSpec := { _root_.Go.OpenSpec.ofChange s with cond := some uptoSmall }

/-- 'privhouselaw08.DistNames', WHERE WHAT IT READS IS OF BULK AT MOST 1048576: true; the input reads as it did. -/
def distNamesUptoRow : OpenClaim := { program := "ytgkojegljeofeaagreatdoor", sum := "4fa7a7ccfff2b273eb8cf7775c400d7d98fe8688993b4451a8e978a04590bc3e", func := "privhouse/privhouselaw08.DistNames", spec := "distNames", inPlace := ["internal/bytealg.IndexByteString", "internal/bytealg.IndexString", "internal/abi.NoEscape", "internal/bytealg.MakeNoZero"], unfollowed := true, recurses := true, named := ["internal/bytealg.MaxLen", "internal/strconv.uint64pow10", "math/bits.deBruijn32tab", "math/bits.deBruijn64tab"], apart := false, laid := [("math/bits.deBruijn32tab", laid_math_bits_deBruijn32tab), ("math/bits.deBruijn64tab", laid_math_bits_deBruijn64tab), ("internal/strconv.uint64pow10", laid_internal_strconv_uint64pow10)], narrowed := true }
def DistNamesUptoSaid : Prop := distNamesUptoRow.holds Tryz.pinned (OpenSpec.upto distNamesSpec)

/-- 'privhouselaw08.DistMakes', WHERE WHAT IT READS IS OF BULK AT MOST 1048576: true; the input reads as it did. -/
def distMakesUptoRow : OpenClaim := { program := "ytgkojegljeofeaagreatdoor", sum := "4fa7a7ccfff2b273eb8cf7775c400d7d98fe8688993b4451a8e978a04590bc3e", func := "privhouse/privhouselaw08.DistMakes", spec := "distMakes", inPlace := ["internal/bytealg.IndexByteString", "internal/bytealg.IndexString", "internal/abi.NoEscape", "internal/bytealg.MakeNoZero"], unfollowed := true, recurses := true, named := ["internal/bytealg.MaxLen", "internal/strconv.uint64pow10", "math/bits.deBruijn32tab", "math/bits.deBruijn64tab"], apart := false, laid := [("math/bits.deBruijn32tab", laid_math_bits_deBruijn32tab), ("math/bits.deBruijn64tab", laid_math_bits_deBruijn64tab), ("internal/strconv.uint64pow10", laid_internal_strconv_uint64pow10)], narrowed := true }
def DistMakesUptoSaid : Prop := distMakesUptoRow.holds Tryz.pinned (OpenSpec.upto distMakesSpec)

/-- 'privhouselaw08.DistMeasures', WHERE WHAT IT READS IS OF BULK AT MOST 1048576: true; the input reads as it did. -/
def distMeasuresUptoRow : OpenClaim := { program := "ytgkojegljeofeaagreatdoor", sum := "4fa7a7ccfff2b273eb8cf7775c400d7d98fe8688993b4451a8e978a04590bc3e", func := "privhouse/privhouselaw08.DistMeasures", spec := "distMeasures", inPlace := ["internal/bytealg.IndexByteString", "internal/bytealg.IndexString", "internal/abi.NoEscape", "internal/bytealg.MakeNoZero"], unfollowed := true, recurses := true, named := ["internal/bytealg.MaxLen", "internal/strconv.uint64pow10", "math/bits.deBruijn32tab", "math/bits.deBruijn64tab"], apart := false, laid := [("math/bits.deBruijn32tab", laid_math_bits_deBruijn32tab), ("math/bits.deBruijn64tab", laid_math_bits_deBruijn64tab), ("internal/strconv.uint64pow10", laid_internal_strconv_uint64pow10)], narrowed := true }
def DistMeasuresUptoSaid : Prop := distMeasuresUptoRow.holds Tryz.pinned (OpenSpec.upto distMeasuresSpec)

/-- 'privhouselaw08.DistSets', WHERE WHAT IT READS IS OF BULK AT MOST 1048576: true; the input reads as it did. -/
def distSetsUptoRow : OpenClaim := { program := "ytgkojegljeofeaagreatdoor", sum := "4fa7a7ccfff2b273eb8cf7775c400d7d98fe8688993b4451a8e978a04590bc3e", func := "privhouse/privhouselaw08.DistSets", spec := "distSets", inPlace := ["internal/bytealg.IndexByteString", "internal/bytealg.IndexString", "internal/abi.NoEscape", "internal/bytealg.MakeNoZero"], unfollowed := true, recurses := true, named := ["internal/bytealg.MaxLen", "internal/strconv.uint64pow10", "math/bits.deBruijn32tab", "math/bits.deBruijn64tab"], apart := false, laid := [("math/bits.deBruijn32tab", laid_math_bits_deBruijn32tab), ("math/bits.deBruijn64tab", laid_math_bits_deBruijn64tab), ("internal/strconv.uint64pow10", laid_internal_strconv_uint64pow10)], narrowed := true }
def DistSetsUptoSaid : Prop := distSetsUptoRow.holds Tryz.pinned (OpenSpec.upto distSetsSpec)

/-- 'privhouselaw08.DistPushes', WHERE WHAT IT READS IS OF BULK AT MOST 1048576: true; the input reads as it did. -/
def distPushesUptoRow : OpenClaim := { program := "ytgkojegljeofeaagreatdoor", sum := "4fa7a7ccfff2b273eb8cf7775c400d7d98fe8688993b4451a8e978a04590bc3e", func := "privhouse/privhouselaw08.DistPushes", spec := "distPushes", inPlace := ["internal/bytealg.IndexByteString", "internal/bytealg.IndexString", "internal/abi.NoEscape", "internal/bytealg.MakeNoZero"], unfollowed := true, recurses := true, named := ["internal/bytealg.MaxLen", "internal/strconv.uint64pow10", "math/bits.deBruijn32tab", "math/bits.deBruijn64tab"], apart := false, laid := [("math/bits.deBruijn32tab", laid_math_bits_deBruijn32tab), ("math/bits.deBruijn64tab", laid_math_bits_deBruijn64tab), ("internal/strconv.uint64pow10", laid_internal_strconv_uint64pow10)], narrowed := true }
def DistPushesUptoSaid : Prop := distPushesUptoRow.holds Tryz.pinned (OpenSpec.upto distPushesSpec)

/-- 'privhouselaw08.DistProducts', WHERE WHAT IT READS IS OF BULK AT MOST 1048576: true; the input reads as it did. -/
def distProductsUptoRow : OpenClaim := { program := "ytgkojegljeofeaagreatdoor", sum := "4fa7a7ccfff2b273eb8cf7775c400d7d98fe8688993b4451a8e978a04590bc3e", func := "privhouse/privhouselaw08.DistProducts", spec := "distProducts", inPlace := ["internal/bytealg.IndexByteString", "internal/bytealg.IndexString", "internal/abi.NoEscape", "internal/bytealg.MakeNoZero"], unfollowed := true, recurses := true, named := ["internal/bytealg.MaxLen", "internal/strconv.uint64pow10", "math/bits.deBruijn32tab", "math/bits.deBruijn64tab"], apart := false, laid := [("math/bits.deBruijn32tab", laid_math_bits_deBruijn32tab), ("math/bits.deBruijn64tab", laid_math_bits_deBruijn64tab), ("internal/strconv.uint64pow10", laid_internal_strconv_uint64pow10)], narrowed := true }
def DistProductsUptoSaid : Prop := distProductsUptoRow.holds Tryz.pinned (OpenSpec.upto distProductsSpec)

/-- 'privhouselaw08.DistMixes', WHERE WHAT IT READS IS OF BULK AT MOST 1048576: true; the input reads as it did. -/
def distMixesUptoRow : OpenClaim := { program := "ytgkojegljeofeaagreatdoor", sum := "4fa7a7ccfff2b273eb8cf7775c400d7d98fe8688993b4451a8e978a04590bc3e", func := "privhouse/privhouselaw08.DistMixes", spec := "distMixes", inPlace := ["internal/bytealg.IndexByteString", "internal/bytealg.IndexString", "internal/abi.NoEscape", "internal/bytealg.MakeNoZero"], unfollowed := true, recurses := true, named := ["internal/bytealg.MaxLen", "internal/strconv.uint64pow10", "math/bits.deBruijn32tab", "math/bits.deBruijn64tab"], apart := false, laid := [("math/bits.deBruijn32tab", laid_math_bits_deBruijn32tab), ("math/bits.deBruijn64tab", laid_math_bits_deBruijn64tab), ("internal/strconv.uint64pow10", laid_internal_strconv_uint64pow10)], narrowed := true }
def DistMixesUptoSaid : Prop := distMixesUptoRow.holds Tryz.pinned (OpenSpec.upto distMixesSpec)

/-- 'privhouselaw08.DistFactors', WHERE WHAT IT READS IS OF BULK AT MOST 1048576: true; the input reads as it did. -/
def distFactorsUptoRow : OpenClaim := { program := "ytgkojegljeofeaagreatdoor", sum := "4fa7a7ccfff2b273eb8cf7775c400d7d98fe8688993b4451a8e978a04590bc3e", func := "privhouse/privhouselaw08.DistFactors", spec := "distFactors", inPlace := ["internal/bytealg.IndexByteString", "internal/bytealg.IndexString", "internal/abi.NoEscape", "internal/bytealg.MakeNoZero"], unfollowed := true, recurses := true, named := ["internal/bytealg.MaxLen", "internal/strconv.uint64pow10", "math/bits.deBruijn32tab", "math/bits.deBruijn64tab"], apart := false, laid := [("math/bits.deBruijn32tab", laid_math_bits_deBruijn32tab), ("math/bits.deBruijn64tab", laid_math_bits_deBruijn64tab), ("internal/strconv.uint64pow10", laid_internal_strconv_uint64pow10)], narrowed := true }
def DistFactorsUptoSaid : Prop := distFactorsUptoRow.holds Tryz.pinned (OpenSpec.upto distFactorsSpec)

/-- 'privhouselaw08.DistTriangle', WHERE WHAT IT READS IS OF BULK AT MOST 1048576: true; the input reads as it did. -/
def distTriangleUptoRow : OpenClaim := { program := "ytgkojegljeofeaagreatdoor", sum := "4fa7a7ccfff2b273eb8cf7775c400d7d98fe8688993b4451a8e978a04590bc3e", func := "privhouse/privhouselaw08.DistTriangle", spec := "distTriangle", inPlace := ["internal/bytealg.IndexByteString", "internal/bytealg.IndexString", "internal/abi.NoEscape", "internal/bytealg.MakeNoZero"], unfollowed := true, recurses := true, named := ["internal/bytealg.MaxLen", "internal/strconv.uint64pow10", "math/bits.deBruijn32tab", "math/bits.deBruijn64tab"], apart := false, laid := [("math/bits.deBruijn32tab", laid_math_bits_deBruijn32tab), ("math/bits.deBruijn64tab", laid_math_bits_deBruijn64tab), ("internal/strconv.uint64pow10", laid_internal_strconv_uint64pow10)], narrowed := true }
def DistTriangleUptoSaid : Prop := distTriangleUptoRow.holds Tryz.pinned (OpenSpec.upto distTriangleSpec)

end Rows
end Go.Proofs.YtgkojegljeofeaaGreatDoor
