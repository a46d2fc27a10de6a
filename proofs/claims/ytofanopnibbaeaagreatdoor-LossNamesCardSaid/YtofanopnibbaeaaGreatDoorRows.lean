/-
  NARROWER THAN 'FOR EVERY INPUT', by the rows' own cells (each row's printed sentence says how): DistNames: laid · DistPushes: laid · DistProducts: laid · DistMixes: laid · LossNames: laid · LossCalls: laid · LossRests: laid · LossAdds: laid · LossGroups: laid · LossLates: laid · LossKeeps: laid · LossOrder: laid.
  DERIVED. THE GIVEN ROWS OF THIS SEAT. 12 by the template 'for every input the law returns true; each argument reads behind the call as it read before'; 0 by the template 'total and deterministic' (their statements: YtofanopnibbaeaaGreatDoorTotals.lean).
  GIVEN WITH THE SEED: the statements are not yours to turn. If you find one false, say at which input.
  Laid BY PROGRAM, IN A SANDBOX (cutbox-rows.mjs): the forced cells as the released guide's own fill.sh prints them over the translation 6f7e8ddfa50b9edf… (all of the seat's roots in one cut). By AI agents, Wed Nov 11 2026. No macro, syntax, notation, axiom, sorry.
-/
import Derived.Test.YtofanopnibbaeaaGreatDoorChecked
import GoSem.Claim
import GoSem.ClaimJoined
import GoSem.ClaimMapViews
import Derived.JoinedTies
import Derived.KernelRfl
namespace Go.Proofs.YtofanopnibbaeaaGreatDoor
/- THE CELL 'sum', in the pinned program and in every row, IS THE sha256 OF THE DUMP (.gsa) THAT YtofanopnibbaeaaGreatDoorProg.lean LOADS. Nothing in Lean hashes anything: it is a label: what it is worth is what the hold of that sum in a sandbox is worth. -/
noncomputable def Tryz.pinned : Pinned := { name := "ytofanopnibbaeaagreatdoor", sum := "6f7e8ddfa50b9edf6b2f3897092466c5a5d822c8a3bf48168464f7dbf3162b47", checked := Tryz.checked }
namespace Rows
def none {H : Type} : Left H := { results := [], args := [] }

/- WHAT THE LISTED PACKAGE-LEVEL VARIABLES READ AS WHEN THE CALL BEGINS. Each datum BY PROGRAM (the guide's laid-datum.mjs) off the statement by which the dump's own 'gosem.cut.vars' lays the variable. In a bare row this is a premise. The card (YtofanopnibbaeaaGreatDoorCards.lean) ties it to the program's text. -/
def laid_math_bits_deBruijn32tab {H : Type} : DataW H := .agg [.lit (.int .u8 0), .lit (.int .u8 1), .lit (.int .u8 28), .lit (.int .u8 2), .lit (.int .u8 29), .lit (.int .u8 14), .lit (.int .u8 24), .lit (.int .u8 3), .lit (.int .u8 30), .lit (.int .u8 22), .lit (.int .u8 20), .lit (.int .u8 15), .lit (.int .u8 25), .lit (.int .u8 17), .lit (.int .u8 4), .lit (.int .u8 8), .lit (.int .u8 31), .lit (.int .u8 27), .lit (.int .u8 13), .lit (.int .u8 23), .lit (.int .u8 21), .lit (.int .u8 19), .lit (.int .u8 16), .lit (.int .u8 7), .lit (.int .u8 26), .lit (.int .u8 12), .lit (.int .u8 18), .lit (.int .u8 6), .lit (.int .u8 11), .lit (.int .u8 5), .lit (.int .u8 10), .lit (.int .u8 9)]
def laid_math_bits_deBruijn64tab {H : Type} : DataW H := .agg [.lit (.int .u8 0), .lit (.int .u8 1), .lit (.int .u8 56), .lit (.int .u8 2), .lit (.int .u8 57), .lit (.int .u8 49), .lit (.int .u8 28), .lit (.int .u8 3), .lit (.int .u8 61), .lit (.int .u8 58), .lit (.int .u8 42), .lit (.int .u8 50), .lit (.int .u8 38), .lit (.int .u8 29), .lit (.int .u8 17), .lit (.int .u8 4), .lit (.int .u8 62), .lit (.int .u8 47), .lit (.int .u8 59), .lit (.int .u8 36), .lit (.int .u8 45), .lit (.int .u8 43), .lit (.int .u8 51), .lit (.int .u8 22), .lit (.int .u8 53), .lit (.int .u8 39), .lit (.int .u8 33), .lit (.int .u8 30), .lit (.int .u8 24), .lit (.int .u8 18), .lit (.int .u8 12), .lit (.int .u8 5), .lit (.int .u8 63), .lit (.int .u8 55), .lit (.int .u8 48), .lit (.int .u8 27), .lit (.int .u8 60), .lit (.int .u8 41), .lit (.int .u8 37), .lit (.int .u8 16), .lit (.int .u8 46), .lit (.int .u8 35), .lit (.int .u8 44), .lit (.int .u8 21), .lit (.int .u8 52), .lit (.int .u8 32), .lit (.int .u8 23), .lit (.int .u8 11), .lit (.int .u8 54), .lit (.int .u8 26), .lit (.int .u8 40), .lit (.int .u8 15), .lit (.int .u8 34), .lit (.int .u8 20), .lit (.int .u8 31), .lit (.int .u8 10), .lit (.int .u8 25), .lit (.int .u8 14), .lit (.int .u8 19), .lit (.int .u8 9), .lit (.int .u8 13), .lit (.int .u8 8), .lit (.int .u8 7), .lit (.int .u8 6)]
def laid_internal_strconv_uint64pow10 {H : Type} : DataW H := .agg [.lit (.int .u64 1), .lit (.int .u64 10), .lit (.int .u64 100), .lit (.int .u64 1000), .lit (.int .u64 10000), .lit (.int .u64 100000), .lit (.int .u64 1000000), .lit (.int .u64 10000000), .lit (.int .u64 100000000), .lit (.int .u64 1000000000), .lit (.int .u64 10000000000), .lit (.int .u64 100000000000), .lit (.int .u64 1000000000000), .lit (.int .u64 10000000000000), .lit (.int .u64 100000000000000), .lit (.int .u64 1000000000000000), .lit (.int .u64 10000000000000000), .lit (.int .u64 100000000000000000), .lit (.int .u64 1000000000000000000), .lit (.int .u64 10000000000000000000)]

/-- 'privhouselaw08.DistNames': WHATEVER THE INPUT: true; the input reads as it did. -/
def distNamesSpec : ChangeSpec := { name := "distNames", fn := fun _ => fun
  | [] => { results := [.lit (.bool true)], args := [] }
  | _ => none }
def distNamesRow : OpenClaim := { program := "ytofanopnibbaeaagreatdoor", sum := "6f7e8ddfa50b9edf6b2f3897092466c5a5d822c8a3bf48168464f7dbf3162b47", func := "privhouse/privhouselaw08.DistNames", spec := "distNames", inPlace := ["internal/bytealg.IndexByteString", "internal/bytealg.IndexString", "internal/abi.NoEscape", "internal/bytealg.MakeNoZero"], unfollowed := true, recurses := true, named := ["internal/bytealg.MaxLen", "internal/strconv.uint64pow10", "math/bits.deBruijn32tab", "math/bits.deBruijn64tab"], apart := false, laid := [("math/bits.deBruijn32tab", laid_math_bits_deBruijn32tab), ("math/bits.deBruijn64tab", laid_math_bits_deBruijn64tab), ("internal/strconv.uint64pow10", laid_internal_strconv_uint64pow10)] }
def DistNamesSaid : Prop := distNamesRow.holds Tryz.pinned (OpenSpec.ofChange distNamesSpec)

/-- ITS FALSE NEIGHBOUR: 'it returns false'. Refute it at one input. -/
def distNamesWrong : ChangeSpec := { name := "distNames", fn := fun _ => fun
  | [] => { results := [.lit (.bool false)], args := [] }
  | _ => none }
def DistNamesWrongFalsely : Prop := distNamesRow.holds Tryz.pinned (OpenSpec.ofChange distNamesWrong)

/-- 'privhouselaw08.DistPushes': WHATEVER THE INPUT: true; the input reads as it did. -/
def distPushesSpec : ChangeSpec := { name := "distPushes", fn := fun _ => fun
  | [d1, d2, d3, d4, d5] => { results := [.lit (.bool true)], args := [d1, d2, d3, d4, d5] }
  | _ => none }
def distPushesRow : OpenClaim := { program := "ytofanopnibbaeaagreatdoor", sum := "6f7e8ddfa50b9edf6b2f3897092466c5a5d822c8a3bf48168464f7dbf3162b47", func := "privhouse/privhouselaw08.DistPushes", spec := "distPushes", inPlace := ["internal/bytealg.IndexByteString", "internal/bytealg.IndexString", "internal/abi.NoEscape", "internal/bytealg.MakeNoZero"], unfollowed := true, recurses := true, named := ["internal/bytealg.MaxLen", "internal/strconv.uint64pow10", "math/bits.deBruijn32tab", "math/bits.deBruijn64tab"], apart := false, laid := [("math/bits.deBruijn32tab", laid_math_bits_deBruijn32tab), ("math/bits.deBruijn64tab", laid_math_bits_deBruijn64tab), ("internal/strconv.uint64pow10", laid_internal_strconv_uint64pow10)] }
def DistPushesSaid : Prop := distPushesRow.holds Tryz.pinned (OpenSpec.ofChange distPushesSpec)

/-- ITS FALSE NEIGHBOUR: 'it returns false'. Refute it at one input. -/
def distPushesWrong : ChangeSpec := { name := "distPushes", fn := fun _ => fun
  | [d1, d2, d3, d4, d5] => { results := [.lit (.bool false)], args := [d1, d2, d3, d4, d5] }
  | _ => none }
def DistPushesWrongFalsely : Prop := distPushesRow.holds Tryz.pinned (OpenSpec.ofChange distPushesWrong)

/-- 'privhouselaw08.DistProducts': WHATEVER THE INPUT: true; the input reads as it did. -/
def distProductsSpec : ChangeSpec := { name := "distProducts", fn := fun _ => fun
  | [d1, d2, d3, d4, d5, d6, d7] => { results := [.lit (.bool true)], args := [d1, d2, d3, d4, d5, d6, d7] }
  | _ => none }
def distProductsRow : OpenClaim := { program := "ytofanopnibbaeaagreatdoor", sum := "6f7e8ddfa50b9edf6b2f3897092466c5a5d822c8a3bf48168464f7dbf3162b47", func := "privhouse/privhouselaw08.DistProducts", spec := "distProducts", inPlace := ["internal/bytealg.IndexByteString", "internal/bytealg.IndexString", "internal/abi.NoEscape", "internal/bytealg.MakeNoZero"], unfollowed := true, recurses := true, named := ["internal/bytealg.MaxLen", "internal/strconv.uint64pow10", "math/bits.deBruijn32tab", "math/bits.deBruijn64tab"], apart := false, laid := [("math/bits.deBruijn32tab", laid_math_bits_deBruijn32tab), ("math/bits.deBruijn64tab", laid_math_bits_deBruijn64tab), ("internal/strconv.uint64pow10", laid_internal_strconv_uint64pow10)] }
def DistProductsSaid : Prop := distProductsRow.holds Tryz.pinned (OpenSpec.ofChange distProductsSpec)

/-- ITS FALSE NEIGHBOUR: 'it returns false'. Refute it at one input. -/
def distProductsWrong : ChangeSpec := { name := "distProducts", fn := fun _ => fun
  | [d1, d2, d3, d4, d5, d6, d7] => { results := [.lit (.bool false)], args := [d1, d2, d3, d4, d5, d6, d7] }
  | _ => none }
def DistProductsWrongFalsely : Prop := distProductsRow.holds Tryz.pinned (OpenSpec.ofChange distProductsWrong)

/-- 'privhouselaw08.DistMixes': WHATEVER THE INPUT: true; the input reads as it did. -/
def distMixesSpec : ChangeSpec := { name := "distMixes", fn := fun _ => fun
  | [d1, d2, d3, d4, d5, d6] => { results := [.lit (.bool true)], args := [d1, d2, d3, d4, d5, d6] }
  | _ => none }
def distMixesRow : OpenClaim := { program := "ytofanopnibbaeaagreatdoor", sum := "6f7e8ddfa50b9edf6b2f3897092466c5a5d822c8a3bf48168464f7dbf3162b47", func := "privhouse/privhouselaw08.DistMixes", spec := "distMixes", inPlace := ["internal/bytealg.IndexByteString", "internal/bytealg.IndexString", "internal/abi.NoEscape", "internal/bytealg.MakeNoZero"], unfollowed := true, recurses := true, named := ["internal/bytealg.MaxLen", "internal/strconv.uint64pow10", "math/bits.deBruijn32tab", "math/bits.deBruijn64tab"], apart := false, laid := [("math/bits.deBruijn32tab", laid_math_bits_deBruijn32tab), ("math/bits.deBruijn64tab", laid_math_bits_deBruijn64tab), ("internal/strconv.uint64pow10", laid_internal_strconv_uint64pow10)] }
def DistMixesSaid : Prop := distMixesRow.holds Tryz.pinned (OpenSpec.ofChange distMixesSpec)

/-- ITS FALSE NEIGHBOUR: 'it returns false'. Refute it at one input. -/
def distMixesWrong : ChangeSpec := { name := "distMixes", fn := fun _ => fun
  | [d1, d2, d3, d4, d5, d6] => { results := [.lit (.bool false)], args := [d1, d2, d3, d4, d5, d6] }
  | _ => none }
def DistMixesWrongFalsely : Prop := distMixesRow.holds Tryz.pinned (OpenSpec.ofChange distMixesWrong)

/-- 'privhouselaw09.LossNames': WHATEVER THE INPUT: true; the input reads as it did. -/
def lossNamesSpec : ChangeSpec := { name := "lossNames", fn := fun _ => fun
  | [] => { results := [.lit (.bool true)], args := [] }
  | _ => none }
def lossNamesRow : OpenClaim := { program := "ytofanopnibbaeaagreatdoor", sum := "6f7e8ddfa50b9edf6b2f3897092466c5a5d822c8a3bf48168464f7dbf3162b47", func := "privhouse/privhouselaw09.LossNames", spec := "lossNames", inPlace := ["internal/bytealg.IndexByteString", "internal/bytealg.IndexString", "internal/abi.NoEscape", "internal/bytealg.MakeNoZero"], unfollowed := true, recurses := true, named := ["internal/bytealg.MaxLen", "internal/strconv.uint64pow10", "math/bits.deBruijn32tab", "math/bits.deBruijn64tab"], apart := false, laid := [("math/bits.deBruijn32tab", laid_math_bits_deBruijn32tab), ("math/bits.deBruijn64tab", laid_math_bits_deBruijn64tab), ("internal/strconv.uint64pow10", laid_internal_strconv_uint64pow10)] }
def LossNamesSaid : Prop := lossNamesRow.holds Tryz.pinned (OpenSpec.ofChange lossNamesSpec)

/-- ITS FALSE NEIGHBOUR: 'it returns false'. Refute it at one input. -/
def lossNamesWrong : ChangeSpec := { name := "lossNames", fn := fun _ => fun
  | [] => { results := [.lit (.bool false)], args := [] }
  | _ => none }
def LossNamesWrongFalsely : Prop := lossNamesRow.holds Tryz.pinned (OpenSpec.ofChange lossNamesWrong)

/-- 'privhouselaw09.LossCalls': WHATEVER THE INPUT: true; the input reads as it did. -/
def lossCallsSpec : ChangeSpec := { name := "lossCalls", fn := fun _ => fun
  | [d1, d2, d3, d4] => { results := [.lit (.bool true)], args := [d1, d2, d3, d4] }
  | _ => none }
def lossCallsRow : OpenClaim := { program := "ytofanopnibbaeaagreatdoor", sum := "6f7e8ddfa50b9edf6b2f3897092466c5a5d822c8a3bf48168464f7dbf3162b47", func := "privhouse/privhouselaw09.LossCalls", spec := "lossCalls", inPlace := ["internal/bytealg.IndexByteString", "internal/bytealg.IndexString", "internal/abi.NoEscape", "internal/bytealg.MakeNoZero"], unfollowed := true, recurses := true, named := ["internal/bytealg.MaxLen", "internal/strconv.uint64pow10", "math/bits.deBruijn32tab", "math/bits.deBruijn64tab"], apart := false, laid := [("math/bits.deBruijn32tab", laid_math_bits_deBruijn32tab), ("math/bits.deBruijn64tab", laid_math_bits_deBruijn64tab), ("internal/strconv.uint64pow10", laid_internal_strconv_uint64pow10)] }
def LossCallsSaid : Prop := lossCallsRow.holds Tryz.pinned (OpenSpec.ofChange lossCallsSpec)

/-- ITS FALSE NEIGHBOUR: 'it returns false'. Refute it at one input. -/
def lossCallsWrong : ChangeSpec := { name := "lossCalls", fn := fun _ => fun
  | [d1, d2, d3, d4] => { results := [.lit (.bool false)], args := [d1, d2, d3, d4] }
  | _ => none }
def LossCallsWrongFalsely : Prop := lossCallsRow.holds Tryz.pinned (OpenSpec.ofChange lossCallsWrong)

/-- 'privhouselaw09.LossRests': WHATEVER THE INPUT: true; the input reads as it did. -/
def lossRestsSpec : ChangeSpec := { name := "lossRests", fn := fun _ => fun
  | [d1, d2, d3, d4, d5] => { results := [.lit (.bool true)], args := [d1, d2, d3, d4, d5] }
  | _ => none }
def lossRestsRow : OpenClaim := { program := "ytofanopnibbaeaagreatdoor", sum := "6f7e8ddfa50b9edf6b2f3897092466c5a5d822c8a3bf48168464f7dbf3162b47", func := "privhouse/privhouselaw09.LossRests", spec := "lossRests", inPlace := ["internal/bytealg.IndexByteString", "internal/bytealg.IndexString", "internal/abi.NoEscape", "internal/bytealg.MakeNoZero"], unfollowed := true, recurses := true, named := ["internal/bytealg.MaxLen", "internal/strconv.uint64pow10", "math/bits.deBruijn32tab", "math/bits.deBruijn64tab"], apart := false, laid := [("math/bits.deBruijn32tab", laid_math_bits_deBruijn32tab), ("math/bits.deBruijn64tab", laid_math_bits_deBruijn64tab), ("internal/strconv.uint64pow10", laid_internal_strconv_uint64pow10)] }
def LossRestsSaid : Prop := lossRestsRow.holds Tryz.pinned (OpenSpec.ofChange lossRestsSpec)

/-- ITS FALSE NEIGHBOUR: 'it returns false'. Refute it at one input. -/
def lossRestsWrong : ChangeSpec := { name := "lossRests", fn := fun _ => fun
  | [d1, d2, d3, d4, d5] => { results := [.lit (.bool false)], args := [d1, d2, d3, d4, d5] }
  | _ => none }
def LossRestsWrongFalsely : Prop := lossRestsRow.holds Tryz.pinned (OpenSpec.ofChange lossRestsWrong)

/-- 'privhouselaw09.LossAdds': WHATEVER THE INPUT: true; the input reads as it did. -/
def lossAddsSpec : ChangeSpec := { name := "lossAdds", fn := fun _ => fun
  | [d1, d2, d3, d4, d5, d6] => { results := [.lit (.bool true)], args := [d1, d2, d3, d4, d5, d6] }
  | _ => none }
def lossAddsRow : OpenClaim := { program := "ytofanopnibbaeaagreatdoor", sum := "6f7e8ddfa50b9edf6b2f3897092466c5a5d822c8a3bf48168464f7dbf3162b47", func := "privhouse/privhouselaw09.LossAdds", spec := "lossAdds", inPlace := ["internal/bytealg.IndexByteString", "internal/bytealg.IndexString", "internal/abi.NoEscape", "internal/bytealg.MakeNoZero"], unfollowed := true, recurses := true, named := ["internal/bytealg.MaxLen", "internal/strconv.uint64pow10", "math/bits.deBruijn32tab", "math/bits.deBruijn64tab"], apart := false, laid := [("math/bits.deBruijn32tab", laid_math_bits_deBruijn32tab), ("math/bits.deBruijn64tab", laid_math_bits_deBruijn64tab), ("internal/strconv.uint64pow10", laid_internal_strconv_uint64pow10)] }
def LossAddsSaid : Prop := lossAddsRow.holds Tryz.pinned (OpenSpec.ofChange lossAddsSpec)

/-- ITS FALSE NEIGHBOUR: 'it returns false'. Refute it at one input. -/
def lossAddsWrong : ChangeSpec := { name := "lossAdds", fn := fun _ => fun
  | [d1, d2, d3, d4, d5, d6] => { results := [.lit (.bool false)], args := [d1, d2, d3, d4, d5, d6] }
  | _ => none }
def LossAddsWrongFalsely : Prop := lossAddsRow.holds Tryz.pinned (OpenSpec.ofChange lossAddsWrong)

/-- 'privhouselaw09.LossGroups': WHATEVER THE INPUT: true; the input reads as it did. -/
def lossGroupsSpec : ChangeSpec := { name := "lossGroups", fn := fun _ => fun
  | [d1, d2, d3, d4, d5] => { results := [.lit (.bool true)], args := [d1, d2, d3, d4, d5] }
  | _ => none }
def lossGroupsRow : OpenClaim := { program := "ytofanopnibbaeaagreatdoor", sum := "6f7e8ddfa50b9edf6b2f3897092466c5a5d822c8a3bf48168464f7dbf3162b47", func := "privhouse/privhouselaw09.LossGroups", spec := "lossGroups", inPlace := ["internal/bytealg.IndexByteString", "internal/bytealg.IndexString", "internal/abi.NoEscape", "internal/bytealg.MakeNoZero"], unfollowed := true, recurses := true, named := ["internal/bytealg.MaxLen", "internal/strconv.uint64pow10", "math/bits.deBruijn32tab", "math/bits.deBruijn64tab"], apart := false, laid := [("math/bits.deBruijn32tab", laid_math_bits_deBruijn32tab), ("math/bits.deBruijn64tab", laid_math_bits_deBruijn64tab), ("internal/strconv.uint64pow10", laid_internal_strconv_uint64pow10)] }
def LossGroupsSaid : Prop := lossGroupsRow.holds Tryz.pinned (OpenSpec.ofChange lossGroupsSpec)

/-- ITS FALSE NEIGHBOUR: 'it returns false'. Refute it at one input. -/
def lossGroupsWrong : ChangeSpec := { name := "lossGroups", fn := fun _ => fun
  | [d1, d2, d3, d4, d5] => { results := [.lit (.bool false)], args := [d1, d2, d3, d4, d5] }
  | _ => none }
def LossGroupsWrongFalsely : Prop := lossGroupsRow.holds Tryz.pinned (OpenSpec.ofChange lossGroupsWrong)

/-- 'privhouselaw09.LossLates': WHATEVER THE INPUT: true; the input reads as it did. -/
def lossLatesSpec : ChangeSpec := { name := "lossLates", fn := fun _ => fun
  | [d1, d2, d3, d4, d5] => { results := [.lit (.bool true)], args := [d1, d2, d3, d4, d5] }
  | _ => none }
def lossLatesRow : OpenClaim := { program := "ytofanopnibbaeaagreatdoor", sum := "6f7e8ddfa50b9edf6b2f3897092466c5a5d822c8a3bf48168464f7dbf3162b47", func := "privhouse/privhouselaw09.LossLates", spec := "lossLates", inPlace := ["internal/bytealg.IndexByteString", "internal/bytealg.IndexString", "internal/abi.NoEscape", "internal/bytealg.MakeNoZero"], unfollowed := true, recurses := true, named := ["internal/bytealg.MaxLen", "internal/strconv.uint64pow10", "math/bits.deBruijn32tab", "math/bits.deBruijn64tab"], apart := false, laid := [("math/bits.deBruijn32tab", laid_math_bits_deBruijn32tab), ("math/bits.deBruijn64tab", laid_math_bits_deBruijn64tab), ("internal/strconv.uint64pow10", laid_internal_strconv_uint64pow10)] }
def LossLatesSaid : Prop := lossLatesRow.holds Tryz.pinned (OpenSpec.ofChange lossLatesSpec)

/-- ITS FALSE NEIGHBOUR: 'it returns false'. Refute it at one input. -/
def lossLatesWrong : ChangeSpec := { name := "lossLates", fn := fun _ => fun
  | [d1, d2, d3, d4, d5] => { results := [.lit (.bool false)], args := [d1, d2, d3, d4, d5] }
  | _ => none }
def LossLatesWrongFalsely : Prop := lossLatesRow.holds Tryz.pinned (OpenSpec.ofChange lossLatesWrong)

/-- 'privhouselaw09.LossKeeps': WHATEVER THE INPUT: true; the input reads as it did. -/
def lossKeepsSpec : ChangeSpec := { name := "lossKeeps", fn := fun _ => fun
  | [d1, d2] => { results := [.lit (.bool true)], args := [d1, d2] }
  | _ => none }
def lossKeepsRow : OpenClaim := { program := "ytofanopnibbaeaagreatdoor", sum := "6f7e8ddfa50b9edf6b2f3897092466c5a5d822c8a3bf48168464f7dbf3162b47", func := "privhouse/privhouselaw09.LossKeeps", spec := "lossKeeps", inPlace := ["internal/bytealg.IndexByteString", "internal/bytealg.IndexString", "internal/abi.NoEscape", "internal/bytealg.MakeNoZero"], unfollowed := true, recurses := true, named := ["internal/bytealg.MaxLen", "internal/strconv.uint64pow10", "math/bits.deBruijn32tab", "math/bits.deBruijn64tab"], apart := false, laid := [("math/bits.deBruijn32tab", laid_math_bits_deBruijn32tab), ("math/bits.deBruijn64tab", laid_math_bits_deBruijn64tab), ("internal/strconv.uint64pow10", laid_internal_strconv_uint64pow10)] }
def LossKeepsSaid : Prop := lossKeepsRow.holds Tryz.pinned (OpenSpec.ofChange lossKeepsSpec)

/-- ITS FALSE NEIGHBOUR: 'it returns false'. Refute it at one input. -/
def lossKeepsWrong : ChangeSpec := { name := "lossKeeps", fn := fun _ => fun
  | [d1, d2] => { results := [.lit (.bool false)], args := [d1, d2] }
  | _ => none }
def LossKeepsWrongFalsely : Prop := lossKeepsRow.holds Tryz.pinned (OpenSpec.ofChange lossKeepsWrong)

/-- 'privhouselaw09.LossOrder': WHATEVER THE INPUT: true; the input reads as it did. -/
def lossOrderSpec : ChangeSpec := { name := "lossOrder", fn := fun _ => fun
  | [d1, d2, d3] => { results := [.lit (.bool true)], args := [d1, d2, d3] }
  | _ => none }
def lossOrderRow : OpenClaim := { program := "ytofanopnibbaeaagreatdoor", sum := "6f7e8ddfa50b9edf6b2f3897092466c5a5d822c8a3bf48168464f7dbf3162b47", func := "privhouse/privhouselaw09.LossOrder", spec := "lossOrder", inPlace := ["internal/bytealg.IndexByteString", "internal/bytealg.IndexString", "internal/abi.NoEscape", "internal/bytealg.MakeNoZero"], unfollowed := true, recurses := true, named := ["internal/bytealg.MaxLen", "internal/strconv.uint64pow10", "math/bits.deBruijn32tab", "math/bits.deBruijn64tab"], apart := false, laid := [("math/bits.deBruijn32tab", laid_math_bits_deBruijn32tab), ("math/bits.deBruijn64tab", laid_math_bits_deBruijn64tab), ("internal/strconv.uint64pow10", laid_internal_strconv_uint64pow10)] }
def LossOrderSaid : Prop := lossOrderRow.holds Tryz.pinned (OpenSpec.ofChange lossOrderSpec)

/-- ITS FALSE NEIGHBOUR: 'it returns false'. Refute it at one input. -/
def lossOrderWrong : ChangeSpec := { name := "lossOrder", fn := fun _ => fun
  | [d1, d2, d3] => { results := [.lit (.bool false)], args := [d1, d2, d3] }
  | _ => none }
def LossOrderWrongFalsely : Prop := lossOrderRow.holds Tryz.pinned (OpenSpec.ofChange lossOrderWrong)

/- THE SECOND FORM. 'bulk': how many values and letters a reading holds, each counted each time it is reached (what is shared counts as often as it is met; a slice's spare places count too). A statement '..UptoSaid' is the law's where the arguments, and the package variables that the reading takes, are together of bulk at most 1048576: NARROWER than '..Said'. Prove '..Said' where nothing that the law and all that it calls make is longer than what came in: it says more and counts as full. Else prove '..UptoSaid'. A law counts once. -/
mutual
def uptoBulk {H : Type} : DataW H → Nat
  | .lit (.string bytes) => bytes.length + 1
  | .lit _ => 1
  | .nil => 1
  | .ptr d => uptoBulk d + 1
  | .slice elems spare => uptoBulkAll elems + uptoBulkAll spare + 1
  | .agg parts => uptoBulkAll parts + 1
  | .iface _ d => uptoBulk d + 1
  | .map entries => uptoBulkEntries entries + 1
  | .held _ => 1
def uptoBulkAll {H : Type} : List (DataW H) → Nat
  | [] => 0
  | d :: r => uptoBulk d + uptoBulkAll r
def uptoBulkEntries {H : Type} : List (Lit × DataW H) → Nat
  | [] => 0
  | x :: r => uptoBulkEntry x + uptoBulkEntries r
def uptoBulkEntry {H : Type} : Lit × DataW H → Nat
  | (.string bytes, d) => bytes.length + uptoBulk d + 1
  | (_, d) => uptoBulk d + 1
 end
def uptoSmall : (H : Type) → List (DataW H) → Bool := fun _ ds => decide (uptoBulkAll ds ≤ 1048576)
def OpenSpec.upto (s : _root_.Go.ChangeSpec) : _root_.Go.OpenSpec := { _root_.Go.OpenSpec.ofChange s with cond := some uptoSmall }

/-- 'privhouselaw08.DistNames', WHERE WHAT IT READS IS OF BULK AT MOST 1048576: true; the input reads as it did. -/
def distNamesUptoRow : OpenClaim := { program := "ytofanopnibbaeaagreatdoor", sum := "6f7e8ddfa50b9edf6b2f3897092466c5a5d822c8a3bf48168464f7dbf3162b47", func := "privhouse/privhouselaw08.DistNames", spec := "distNames", inPlace := ["internal/bytealg.IndexByteString", "internal/bytealg.IndexString", "internal/abi.NoEscape", "internal/bytealg.MakeNoZero"], unfollowed := true, recurses := true, named := ["internal/bytealg.MaxLen", "internal/strconv.uint64pow10", "math/bits.deBruijn32tab", "math/bits.deBruijn64tab"], apart := false, laid := [("math/bits.deBruijn32tab", laid_math_bits_deBruijn32tab), ("math/bits.deBruijn64tab", laid_math_bits_deBruijn64tab), ("internal/strconv.uint64pow10", laid_internal_strconv_uint64pow10)], narrowed := true }
def DistNamesUptoSaid : Prop := distNamesUptoRow.holds Tryz.pinned (OpenSpec.upto distNamesSpec)

/-- 'privhouselaw08.DistPushes', WHERE WHAT IT READS IS OF BULK AT MOST 1048576: true; the input reads as it did. -/
def distPushesUptoRow : OpenClaim := { program := "ytofanopnibbaeaagreatdoor", sum := "6f7e8ddfa50b9edf6b2f3897092466c5a5d822c8a3bf48168464f7dbf3162b47", func := "privhouse/privhouselaw08.DistPushes", spec := "distPushes", inPlace := ["internal/bytealg.IndexByteString", "internal/bytealg.IndexString", "internal/abi.NoEscape", "internal/bytealg.MakeNoZero"], unfollowed := true, recurses := true, named := ["internal/bytealg.MaxLen", "internal/strconv.uint64pow10", "math/bits.deBruijn32tab", "math/bits.deBruijn64tab"], apart := false, laid := [("math/bits.deBruijn32tab", laid_math_bits_deBruijn32tab), ("math/bits.deBruijn64tab", laid_math_bits_deBruijn64tab), ("internal/strconv.uint64pow10", laid_internal_strconv_uint64pow10)], narrowed := true }
def DistPushesUptoSaid : Prop := distPushesUptoRow.holds Tryz.pinned (OpenSpec.upto distPushesSpec)

/-- 'privhouselaw08.DistProducts', WHERE WHAT IT READS IS OF BULK AT MOST 1048576: true; the input reads as it did. -/
def distProductsUptoRow : OpenClaim := { program := "ytofanopnibbaeaagreatdoor", sum := "6f7e8ddfa50b9edf6b2f3897092466c5a5d822c8a3bf48168464f7dbf3162b47", func := "privhouse/privhouselaw08.DistProducts", spec := "distProducts", inPlace := ["internal/bytealg.IndexByteString", "internal/bytealg.IndexString", "internal/abi.NoEscape", "internal/bytealg.MakeNoZero"], unfollowed := true, recurses := true, named := ["internal/bytealg.MaxLen", "internal/strconv.uint64pow10", "math/bits.deBruijn32tab", "math/bits.deBruijn64tab"], apart := false, laid := [("math/bits.deBruijn32tab", laid_math_bits_deBruijn32tab), ("math/bits.deBruijn64tab", laid_math_bits_deBruijn64tab), ("internal/strconv.uint64pow10", laid_internal_strconv_uint64pow10)], narrowed := true }
def DistProductsUptoSaid : Prop := distProductsUptoRow.holds Tryz.pinned (OpenSpec.upto distProductsSpec)

/-- 'privhouselaw08.DistMixes', WHERE WHAT IT READS IS OF BULK AT MOST 1048576: true; the input reads as it did. -/
def distMixesUptoRow : OpenClaim := { program := "ytofanopnibbaeaagreatdoor", sum := "6f7e8ddfa50b9edf6b2f3897092466c5a5d822c8a3bf48168464f7dbf3162b47", func := "privhouse/privhouselaw08.DistMixes", spec := "distMixes", inPlace := ["internal/bytealg.IndexByteString", "internal/bytealg.IndexString", "internal/abi.NoEscape", "internal/bytealg.MakeNoZero"], unfollowed := true, recurses := true, named := ["internal/bytealg.MaxLen", "internal/strconv.uint64pow10", "math/bits.deBruijn32tab", "math/bits.deBruijn64tab"], apart := false, laid := [("math/bits.deBruijn32tab", laid_math_bits_deBruijn32tab), ("math/bits.deBruijn64tab", laid_math_bits_deBruijn64tab), ("internal/strconv.uint64pow10", laid_internal_strconv_uint64pow10)], narrowed := true }
def DistMixesUptoSaid : Prop := distMixesUptoRow.holds Tryz.pinned (OpenSpec.upto distMixesSpec)

/-- 'privhouselaw09.LossNames', WHERE WHAT IT READS IS OF BULK AT MOST 1048576: true; the input reads as it did. -/
def lossNamesUptoRow : OpenClaim := { program := "ytofanopnibbaeaagreatdoor", sum := "6f7e8ddfa50b9edf6b2f3897092466c5a5d822c8a3bf48168464f7dbf3162b47", func := "privhouse/privhouselaw09.LossNames", spec := "lossNames", inPlace := ["internal/bytealg.IndexByteString", "internal/bytealg.IndexString", "internal/abi.NoEscape", "internal/bytealg.MakeNoZero"], unfollowed := true, recurses := true, named := ["internal/bytealg.MaxLen", "internal/strconv.uint64pow10", "math/bits.deBruijn32tab", "math/bits.deBruijn64tab"], apart := false, laid := [("math/bits.deBruijn32tab", laid_math_bits_deBruijn32tab), ("math/bits.deBruijn64tab", laid_math_bits_deBruijn64tab), ("internal/strconv.uint64pow10", laid_internal_strconv_uint64pow10)], narrowed := true }
def LossNamesUptoSaid : Prop := lossNamesUptoRow.holds Tryz.pinned (OpenSpec.upto lossNamesSpec)

/-- 'privhouselaw09.LossCalls', WHERE WHAT IT READS IS OF BULK AT MOST 1048576: true; the input reads as it did. -/
def lossCallsUptoRow : OpenClaim := { program := "ytofanopnibbaeaagreatdoor", sum := "6f7e8ddfa50b9edf6b2f3897092466c5a5d822c8a3bf48168464f7dbf3162b47", func := "privhouse/privhouselaw09.LossCalls", spec := "lossCalls", inPlace := ["internal/bytealg.IndexByteString", "internal/bytealg.IndexString", "internal/abi.NoEscape", "internal/bytealg.MakeNoZero"], unfollowed := true, recurses := true, named := ["internal/bytealg.MaxLen", "internal/strconv.uint64pow10", "math/bits.deBruijn32tab", "math/bits.deBruijn64tab"], apart := false, laid := [("math/bits.deBruijn32tab", laid_math_bits_deBruijn32tab), ("math/bits.deBruijn64tab", laid_math_bits_deBruijn64tab), ("internal/strconv.uint64pow10", laid_internal_strconv_uint64pow10)], narrowed := true }
def LossCallsUptoSaid : Prop := lossCallsUptoRow.holds Tryz.pinned (OpenSpec.upto lossCallsSpec)

/-- 'privhouselaw09.LossRests', WHERE WHAT IT READS IS OF BULK AT MOST 1048576: true; the input reads as it did. -/
def lossRestsUptoRow : OpenClaim := { program := "ytofanopnibbaeaagreatdoor", sum := "6f7e8ddfa50b9edf6b2f3897092466c5a5d822c8a3bf48168464f7dbf3162b47", func := "privhouse/privhouselaw09.LossRests", spec := "lossRests", inPlace := ["internal/bytealg.IndexByteString", "internal/bytealg.IndexString", "internal/abi.NoEscape", "internal/bytealg.MakeNoZero"], unfollowed := true, recurses := true, named := ["internal/bytealg.MaxLen", "internal/strconv.uint64pow10", "math/bits.deBruijn32tab", "math/bits.deBruijn64tab"], apart := false, laid := [("math/bits.deBruijn32tab", laid_math_bits_deBruijn32tab), ("math/bits.deBruijn64tab", laid_math_bits_deBruijn64tab), ("internal/strconv.uint64pow10", laid_internal_strconv_uint64pow10)], narrowed := true }
def LossRestsUptoSaid : Prop := lossRestsUptoRow.holds Tryz.pinned (OpenSpec.upto lossRestsSpec)

/-- 'privhouselaw09.LossAdds', WHERE WHAT IT READS IS OF BULK AT MOST 1048576: true; the input reads as it did. -/
def lossAddsUptoRow : OpenClaim := { program := "ytofanopnibbaeaagreatdoor", sum := "6f7e8ddfa50b9edf6b2f3897092466c5a5d822c8a3bf48168464f7dbf3162b47", func := "privhouse/privhouselaw09.LossAdds", spec := "lossAdds", inPlace := ["internal/bytealg.IndexByteString", "internal/bytealg.IndexString", "internal/abi.NoEscape", "internal/bytealg.MakeNoZero"], unfollowed := true, recurses := true, named := ["internal/bytealg.MaxLen", "internal/strconv.uint64pow10", "math/bits.deBruijn32tab", "math/bits.deBruijn64tab"], apart := false, laid := [("math/bits.deBruijn32tab", laid_math_bits_deBruijn32tab), ("math/bits.deBruijn64tab", laid_math_bits_deBruijn64tab), ("internal/strconv.uint64pow10", laid_internal_strconv_uint64pow10)], narrowed := true }
def LossAddsUptoSaid : Prop := lossAddsUptoRow.holds Tryz.pinned (OpenSpec.upto lossAddsSpec)

/-- 'privhouselaw09.LossGroups', WHERE WHAT IT READS IS OF BULK AT MOST 1048576: true; the input reads as it did. -/
def lossGroupsUptoRow : OpenClaim := { program := "ytofanopnibbaeaagreatdoor", sum := "6f7e8ddfa50b9edf6b2f3897092466c5a5d822c8a3bf48168464f7dbf3162b47", func := "privhouse/privhouselaw09.LossGroups", spec := "lossGroups", inPlace := ["internal/bytealg.IndexByteString", "internal/bytealg.IndexString", "internal/abi.NoEscape", "internal/bytealg.MakeNoZero"], unfollowed := true, recurses := true, named := ["internal/bytealg.MaxLen", "internal/strconv.uint64pow10", "math/bits.deBruijn32tab", "math/bits.deBruijn64tab"], apart := false, laid := [("math/bits.deBruijn32tab", laid_math_bits_deBruijn32tab), ("math/bits.deBruijn64tab", laid_math_bits_deBruijn64tab), ("internal/strconv.uint64pow10", laid_internal_strconv_uint64pow10)], narrowed := true }
def LossGroupsUptoSaid : Prop := lossGroupsUptoRow.holds Tryz.pinned (OpenSpec.upto lossGroupsSpec)

/-- 'privhouselaw09.LossLates', WHERE WHAT IT READS IS OF BULK AT MOST 1048576: true; the input reads as it did. -/
def lossLatesUptoRow : OpenClaim := { program := "ytofanopnibbaeaagreatdoor", sum := "6f7e8ddfa50b9edf6b2f3897092466c5a5d822c8a3bf48168464f7dbf3162b47", func := "privhouse/privhouselaw09.LossLates", spec := "lossLates", inPlace := ["internal/bytealg.IndexByteString", "internal/bytealg.IndexString", "internal/abi.NoEscape", "internal/bytealg.MakeNoZero"], unfollowed := true, recurses := true, named := ["internal/bytealg.MaxLen", "internal/strconv.uint64pow10", "math/bits.deBruijn32tab", "math/bits.deBruijn64tab"], apart := false, laid := [("math/bits.deBruijn32tab", laid_math_bits_deBruijn32tab), ("math/bits.deBruijn64tab", laid_math_bits_deBruijn64tab), ("internal/strconv.uint64pow10", laid_internal_strconv_uint64pow10)], narrowed := true }
def LossLatesUptoSaid : Prop := lossLatesUptoRow.holds Tryz.pinned (OpenSpec.upto lossLatesSpec)

/-- 'privhouselaw09.LossKeeps', WHERE WHAT IT READS IS OF BULK AT MOST 1048576: true; the input reads as it did. -/
def lossKeepsUptoRow : OpenClaim := { program := "ytofanopnibbaeaagreatdoor", sum := "6f7e8ddfa50b9edf6b2f3897092466c5a5d822c8a3bf48168464f7dbf3162b47", func := "privhouse/privhouselaw09.LossKeeps", spec := "lossKeeps", inPlace := ["internal/bytealg.IndexByteString", "internal/bytealg.IndexString", "internal/abi.NoEscape", "internal/bytealg.MakeNoZero"], unfollowed := true, recurses := true, named := ["internal/bytealg.MaxLen", "internal/strconv.uint64pow10", "math/bits.deBruijn32tab", "math/bits.deBruijn64tab"], apart := false, laid := [("math/bits.deBruijn32tab", laid_math_bits_deBruijn32tab), ("math/bits.deBruijn64tab", laid_math_bits_deBruijn64tab), ("internal/strconv.uint64pow10", laid_internal_strconv_uint64pow10)], narrowed := true }
def LossKeepsUptoSaid : Prop := lossKeepsUptoRow.holds Tryz.pinned (OpenSpec.upto lossKeepsSpec)

/-- 'privhouselaw09.LossOrder', WHERE WHAT IT READS IS OF BULK AT MOST 1048576: true; the input reads as it did. -/
def lossOrderUptoRow : OpenClaim := { program := "ytofanopnibbaeaagreatdoor", sum := "6f7e8ddfa50b9edf6b2f3897092466c5a5d822c8a3bf48168464f7dbf3162b47", func := "privhouse/privhouselaw09.LossOrder", spec := "lossOrder", inPlace := ["internal/bytealg.IndexByteString", "internal/bytealg.IndexString", "internal/abi.NoEscape", "internal/bytealg.MakeNoZero"], unfollowed := true, recurses := true, named := ["internal/bytealg.MaxLen", "internal/strconv.uint64pow10", "math/bits.deBruijn32tab", "math/bits.deBruijn64tab"], apart := false, laid := [("math/bits.deBruijn32tab", laid_math_bits_deBruijn32tab), ("math/bits.deBruijn64tab", laid_math_bits_deBruijn64tab), ("internal/strconv.uint64pow10", laid_internal_strconv_uint64pow10)], narrowed := true }
def LossOrderUptoSaid : Prop := lossOrderUptoRow.holds Tryz.pinned (OpenSpec.upto lossOrderSpec)

end Rows
end Go.Proofs.YtofanopnibbaeaaGreatDoor
