/-
  NARROWER THAN 'FOR EVERY INPUT', by the rows' own cells (each row's printed sentence says how): ShapeCompares: laid · ShapeProjects: laid · ShapeOrders: laid · ShapeDistincts: laid · ShapeSlices: laid · ShapeSames: laid · ShapePermuted: laid · ShapeTiles: laid.
  DERIVED. THE GIVEN ROWS OF THIS SEAT. 8 by the template 'for every input the law returns true; each argument reads behind the call as it read before'; 0 by the template 'total and deterministic' (their statements: YtkfemnjblbnclaaGreatDoorTotals.lean).
  GIVEN WITH THE SEED: the statements are not yours to turn. If you find one false, say at which input.
  Laid BY PROGRAM, IN A SANDBOX (cutbox-rows.mjs): the forced cells as the released guide's own fill.sh prints them over the translation df8295f6cf0f6147… (all of the seat's roots in one cut). By AI agents, Wed Nov 11 2026. No macro, syntax, notation, axiom, sorry.
-/
import Derived.Test.YtkfemnjblbnclaaGreatDoorChecked
import GoSem.Claim
import GoSem.ClaimJoined
import GoSem.ClaimMapViews
import Derived.JoinedTies
import Derived.KernelRfl
namespace Go.Proofs.YtkfemnjblbnclaaGreatDoor
/- THE CELL 'sum', in the pinned program and in every row, IS THE sha256 OF THE DUMP (.gsa) THAT YtkfemnjblbnclaaGreatDoorProg.lean LOADS. Nothing in Lean hashes anything: it is a label: what it is worth is what the hold of that sum in a sandbox is worth. -/
noncomputable def Tryz.pinned : Pinned := { name := "ytkfemnjblbnclaagreatdoor", sum := "df8295f6cf0f6147caa84e62be200e6877f34c87e435d197ece8ba6073f13857", checked := Tryz.checked }
namespace Rows
def none {H : Type} : Left H := { results := [], args := [] }

/- WHAT THE LISTED PACKAGE-LEVEL VARIABLES READ AS WHEN THE CALL BEGINS. Each datum BY PROGRAM (the guide's laid-datum.mjs) off the statement by which the dump's own 'gosem.cut.vars' lays the variable. In a bare row this is a premise. The card (YtkfemnjblbnclaaGreatDoorCards.lean) ties it to the program's text. -/
def laid_math_bits_deBruijn32tab {H : Type} : DataW H := .agg [.lit (.int .u8 0), .lit (.int .u8 1), .lit (.int .u8 28), .lit (.int .u8 2), .lit (.int .u8 29), .lit (.int .u8 14), .lit (.int .u8 24), .lit (.int .u8 3), .lit (.int .u8 30), .lit (.int .u8 22), .lit (.int .u8 20), .lit (.int .u8 15), .lit (.int .u8 25), .lit (.int .u8 17), .lit (.int .u8 4), .lit (.int .u8 8), .lit (.int .u8 31), .lit (.int .u8 27), .lit (.int .u8 13), .lit (.int .u8 23), .lit (.int .u8 21), .lit (.int .u8 19), .lit (.int .u8 16), .lit (.int .u8 7), .lit (.int .u8 26), .lit (.int .u8 12), .lit (.int .u8 18), .lit (.int .u8 6), .lit (.int .u8 11), .lit (.int .u8 5), .lit (.int .u8 10), .lit (.int .u8 9)]
def laid_math_bits_deBruijn64tab {H : Type} : DataW H := .agg [.lit (.int .u8 0), .lit (.int .u8 1), .lit (.int .u8 56), .lit (.int .u8 2), .lit (.int .u8 57), .lit (.int .u8 49), .lit (.int .u8 28), .lit (.int .u8 3), .lit (.int .u8 61), .lit (.int .u8 58), .lit (.int .u8 42), .lit (.int .u8 50), .lit (.int .u8 38), .lit (.int .u8 29), .lit (.int .u8 17), .lit (.int .u8 4), .lit (.int .u8 62), .lit (.int .u8 47), .lit (.int .u8 59), .lit (.int .u8 36), .lit (.int .u8 45), .lit (.int .u8 43), .lit (.int .u8 51), .lit (.int .u8 22), .lit (.int .u8 53), .lit (.int .u8 39), .lit (.int .u8 33), .lit (.int .u8 30), .lit (.int .u8 24), .lit (.int .u8 18), .lit (.int .u8 12), .lit (.int .u8 5), .lit (.int .u8 63), .lit (.int .u8 55), .lit (.int .u8 48), .lit (.int .u8 27), .lit (.int .u8 60), .lit (.int .u8 41), .lit (.int .u8 37), .lit (.int .u8 16), .lit (.int .u8 46), .lit (.int .u8 35), .lit (.int .u8 44), .lit (.int .u8 21), .lit (.int .u8 52), .lit (.int .u8 32), .lit (.int .u8 23), .lit (.int .u8 11), .lit (.int .u8 54), .lit (.int .u8 26), .lit (.int .u8 40), .lit (.int .u8 15), .lit (.int .u8 34), .lit (.int .u8 20), .lit (.int .u8 31), .lit (.int .u8 10), .lit (.int .u8 25), .lit (.int .u8 14), .lit (.int .u8 19), .lit (.int .u8 9), .lit (.int .u8 13), .lit (.int .u8 8), .lit (.int .u8 7), .lit (.int .u8 6)]
def laid_internal_strconv_uint64pow10 {H : Type} : DataW H := .agg [.lit (.int .u64 1), .lit (.int .u64 10), .lit (.int .u64 100), .lit (.int .u64 1000), .lit (.int .u64 10000), .lit (.int .u64 100000), .lit (.int .u64 1000000), .lit (.int .u64 10000000), .lit (.int .u64 100000000), .lit (.int .u64 1000000000), .lit (.int .u64 10000000000), .lit (.int .u64 100000000000), .lit (.int .u64 1000000000000), .lit (.int .u64 10000000000000), .lit (.int .u64 100000000000000), .lit (.int .u64 1000000000000000), .lit (.int .u64 10000000000000000), .lit (.int .u64 100000000000000000), .lit (.int .u64 1000000000000000000), .lit (.int .u64 10000000000000000000)]
def laid_legation_number_powers {H : Type} : DataW H := .agg [.lit (.int .i64 1), .lit (.int .i64 10), .lit (.int .i64 100), .lit (.int .i64 1000), .lit (.int .i64 10000), .lit (.int .i64 100000), .lit (.int .i64 1000000), .lit (.int .i64 10000000), .lit (.int .i64 100000000)]

/-- 'legationlaw12.ShapeCompares': WHATEVER THE INPUT: true; the input reads as it did. -/
def shapeComparesSpec : ChangeSpec := { name := "shapeCompares", fn := fun _ => fun
  | [d1, d2, d3] => { results := [.lit (.bool true)], args := [d1, d2, d3] }
  | _ => none }
def shapeComparesRow : OpenClaim := { program := "ytkfemnjblbnclaagreatdoor", sum := "df8295f6cf0f6147caa84e62be200e6877f34c87e435d197ece8ba6073f13857", func := "legation/legationlaw12.ShapeCompares", spec := "shapeCompares", inPlace := ["internal/bytealg.IndexByteString", "internal/bytealg.IndexString", "internal/bytealg.abigen_runtime_cmpstring"], unfollowed := true, recurses := true, named := ["internal/bytealg.MaxLen", "legation/number.powers", "internal/strconv.uint64pow10", "math/bits.deBruijn32tab", "math/bits.deBruijn64tab"], plainKeys := false, apart := false, laid := [("math/bits.deBruijn32tab", laid_math_bits_deBruijn32tab), ("math/bits.deBruijn64tab", laid_math_bits_deBruijn64tab), ("internal/strconv.uint64pow10", laid_internal_strconv_uint64pow10), ("legation/number.powers", laid_legation_number_powers)] }
def ShapeComparesSaid : Prop := shapeComparesRow.holds Tryz.pinned (OpenSpec.ofChange shapeComparesSpec)

/-- ITS FALSE NEIGHBOUR: 'it returns false'. Refute it at one input. -/
def shapeComparesWrong : ChangeSpec := { name := "shapeCompares", fn := fun _ => fun
  | [d1, d2, d3] => { results := [.lit (.bool false)], args := [d1, d2, d3] }
  | _ => none }
def ShapeComparesWrongFalsely : Prop := shapeComparesRow.holds Tryz.pinned (OpenSpec.ofChange shapeComparesWrong)

/-- 'legationlaw12.ShapeProjects': WHATEVER THE INPUT: true; the input reads as it did. -/
def shapeProjectsSpec : ChangeSpec := { name := "shapeProjects", fn := fun _ => fun
  | [d1, d2] => { results := [.lit (.bool true)], args := [d1, d2] }
  | _ => none }
def shapeProjectsRow : OpenClaim := { program := "ytkfemnjblbnclaagreatdoor", sum := "df8295f6cf0f6147caa84e62be200e6877f34c87e435d197ece8ba6073f13857", func := "legation/legationlaw12.ShapeProjects", spec := "shapeProjects", inPlace := ["internal/bytealg.IndexByteString", "internal/bytealg.IndexString", "internal/bytealg.abigen_runtime_cmpstring"], unfollowed := true, recurses := true, named := ["internal/bytealg.MaxLen", "legation/number.powers", "internal/strconv.uint64pow10", "math/bits.deBruijn32tab", "math/bits.deBruijn64tab"], plainKeys := false, apart := false, laid := [("math/bits.deBruijn32tab", laid_math_bits_deBruijn32tab), ("math/bits.deBruijn64tab", laid_math_bits_deBruijn64tab), ("internal/strconv.uint64pow10", laid_internal_strconv_uint64pow10), ("legation/number.powers", laid_legation_number_powers)] }
def ShapeProjectsSaid : Prop := shapeProjectsRow.holds Tryz.pinned (OpenSpec.ofChange shapeProjectsSpec)

/-- ITS FALSE NEIGHBOUR: 'it returns false'. Refute it at one input. -/
def shapeProjectsWrong : ChangeSpec := { name := "shapeProjects", fn := fun _ => fun
  | [d1, d2] => { results := [.lit (.bool false)], args := [d1, d2] }
  | _ => none }
def ShapeProjectsWrongFalsely : Prop := shapeProjectsRow.holds Tryz.pinned (OpenSpec.ofChange shapeProjectsWrong)

/-- 'legationlaw12.ShapeOrders': WHATEVER THE INPUT: true; the input reads as it did. -/
def shapeOrdersSpec : ChangeSpec := { name := "shapeOrders", fn := fun _ => fun
  | [d1, d2] => { results := [.lit (.bool true)], args := [d1, d2] }
  | _ => none }
def shapeOrdersRow : OpenClaim := { program := "ytkfemnjblbnclaagreatdoor", sum := "df8295f6cf0f6147caa84e62be200e6877f34c87e435d197ece8ba6073f13857", func := "legation/legationlaw12.ShapeOrders", spec := "shapeOrders", inPlace := ["internal/bytealg.IndexByteString", "internal/bytealg.IndexString", "internal/bytealg.abigen_runtime_cmpstring"], unfollowed := true, recurses := true, named := ["internal/bytealg.MaxLen", "legation/number.powers", "internal/strconv.uint64pow10", "math/bits.deBruijn32tab", "math/bits.deBruijn64tab"], plainKeys := false, apart := false, laid := [("math/bits.deBruijn32tab", laid_math_bits_deBruijn32tab), ("math/bits.deBruijn64tab", laid_math_bits_deBruijn64tab), ("internal/strconv.uint64pow10", laid_internal_strconv_uint64pow10), ("legation/number.powers", laid_legation_number_powers)] }
def ShapeOrdersSaid : Prop := shapeOrdersRow.holds Tryz.pinned (OpenSpec.ofChange shapeOrdersSpec)

/-- ITS FALSE NEIGHBOUR: 'it returns false'. Refute it at one input. -/
def shapeOrdersWrong : ChangeSpec := { name := "shapeOrders", fn := fun _ => fun
  | [d1, d2] => { results := [.lit (.bool false)], args := [d1, d2] }
  | _ => none }
def ShapeOrdersWrongFalsely : Prop := shapeOrdersRow.holds Tryz.pinned (OpenSpec.ofChange shapeOrdersWrong)

/-- 'legationlaw12.ShapeDistincts': WHATEVER THE INPUT: true; the input reads as it did. -/
def shapeDistinctsSpec : ChangeSpec := { name := "shapeDistincts", fn := fun _ => fun
  | [d] => { results := [.lit (.bool true)], args := [d] }
  | _ => none }
def shapeDistinctsRow : OpenClaim := { program := "ytkfemnjblbnclaagreatdoor", sum := "df8295f6cf0f6147caa84e62be200e6877f34c87e435d197ece8ba6073f13857", func := "legation/legationlaw12.ShapeDistincts", spec := "shapeDistincts", inPlace := ["internal/bytealg.IndexByteString", "internal/bytealg.IndexString", "internal/bytealg.abigen_runtime_cmpstring"], unfollowed := true, recurses := true, named := ["internal/bytealg.MaxLen", "legation/number.powers", "internal/strconv.uint64pow10", "math/bits.deBruijn32tab", "math/bits.deBruijn64tab"], plainKeys := false, apart := false, laid := [("math/bits.deBruijn32tab", laid_math_bits_deBruijn32tab), ("math/bits.deBruijn64tab", laid_math_bits_deBruijn64tab), ("internal/strconv.uint64pow10", laid_internal_strconv_uint64pow10), ("legation/number.powers", laid_legation_number_powers)] }
def ShapeDistinctsSaid : Prop := shapeDistinctsRow.holds Tryz.pinned (OpenSpec.ofChange shapeDistinctsSpec)

/-- ITS FALSE NEIGHBOUR: 'it returns false'. Refute it at one input. -/
def shapeDistinctsWrong : ChangeSpec := { name := "shapeDistincts", fn := fun _ => fun
  | [d] => { results := [.lit (.bool false)], args := [d] }
  | _ => none }
def ShapeDistinctsWrongFalsely : Prop := shapeDistinctsRow.holds Tryz.pinned (OpenSpec.ofChange shapeDistinctsWrong)

/-- 'legationlaw12.ShapeSlices': WHATEVER THE INPUT: true; the input reads as it did. -/
def shapeSlicesSpec : ChangeSpec := { name := "shapeSlices", fn := fun _ => fun
  | [d1, d2, d3] => { results := [.lit (.bool true)], args := [d1, d2, d3] }
  | _ => none }
def shapeSlicesRow : OpenClaim := { program := "ytkfemnjblbnclaagreatdoor", sum := "df8295f6cf0f6147caa84e62be200e6877f34c87e435d197ece8ba6073f13857", func := "legation/legationlaw12.ShapeSlices", spec := "shapeSlices", inPlace := ["internal/bytealg.IndexByteString", "internal/bytealg.IndexString", "internal/bytealg.abigen_runtime_cmpstring"], unfollowed := true, recurses := true, named := ["internal/bytealg.MaxLen", "legation/number.powers", "internal/strconv.uint64pow10", "math/bits.deBruijn32tab", "math/bits.deBruijn64tab"], plainKeys := false, apart := false, laid := [("math/bits.deBruijn32tab", laid_math_bits_deBruijn32tab), ("math/bits.deBruijn64tab", laid_math_bits_deBruijn64tab), ("internal/strconv.uint64pow10", laid_internal_strconv_uint64pow10), ("legation/number.powers", laid_legation_number_powers)] }
def ShapeSlicesSaid : Prop := shapeSlicesRow.holds Tryz.pinned (OpenSpec.ofChange shapeSlicesSpec)

/-- ITS FALSE NEIGHBOUR: 'it returns false'. Refute it at one input. -/
def shapeSlicesWrong : ChangeSpec := { name := "shapeSlices", fn := fun _ => fun
  | [d1, d2, d3] => { results := [.lit (.bool false)], args := [d1, d2, d3] }
  | _ => none }
def ShapeSlicesWrongFalsely : Prop := shapeSlicesRow.holds Tryz.pinned (OpenSpec.ofChange shapeSlicesWrong)

/-- 'legationlaw12.ShapeSames': WHATEVER THE INPUT: true; the input reads as it did. -/
def shapeSamesSpec : ChangeSpec := { name := "shapeSames", fn := fun _ => fun
  | [d1, d2] => { results := [.lit (.bool true)], args := [d1, d2] }
  | _ => none }
def shapeSamesRow : OpenClaim := { program := "ytkfemnjblbnclaagreatdoor", sum := "df8295f6cf0f6147caa84e62be200e6877f34c87e435d197ece8ba6073f13857", func := "legation/legationlaw12.ShapeSames", spec := "shapeSames", inPlace := ["internal/bytealg.IndexByteString", "internal/bytealg.IndexString", "internal/bytealg.abigen_runtime_cmpstring"], unfollowed := true, recurses := true, named := ["internal/bytealg.MaxLen", "legation/number.powers", "internal/strconv.uint64pow10", "math/bits.deBruijn32tab", "math/bits.deBruijn64tab"], plainKeys := false, apart := false, laid := [("math/bits.deBruijn32tab", laid_math_bits_deBruijn32tab), ("math/bits.deBruijn64tab", laid_math_bits_deBruijn64tab), ("internal/strconv.uint64pow10", laid_internal_strconv_uint64pow10), ("legation/number.powers", laid_legation_number_powers)] }
def ShapeSamesSaid : Prop := shapeSamesRow.holds Tryz.pinned (OpenSpec.ofChange shapeSamesSpec)

/-- ITS FALSE NEIGHBOUR: 'it returns false'. Refute it at one input. -/
def shapeSamesWrong : ChangeSpec := { name := "shapeSames", fn := fun _ => fun
  | [d1, d2] => { results := [.lit (.bool false)], args := [d1, d2] }
  | _ => none }
def ShapeSamesWrongFalsely : Prop := shapeSamesRow.holds Tryz.pinned (OpenSpec.ofChange shapeSamesWrong)

/-- 'legationlaw12.ShapePermuted': WHATEVER THE INPUT: true; the input reads as it did. -/
def shapePermutedSpec : ChangeSpec := { name := "shapePermuted", fn := fun _ => fun
  | [d1, d2, d3] => { results := [.lit (.bool true)], args := [d1, d2, d3] }
  | _ => none }
def shapePermutedRow : OpenClaim := { program := "ytkfemnjblbnclaagreatdoor", sum := "df8295f6cf0f6147caa84e62be200e6877f34c87e435d197ece8ba6073f13857", func := "legation/legationlaw12.ShapePermuted", spec := "shapePermuted", inPlace := ["internal/bytealg.IndexByteString", "internal/bytealg.IndexString", "internal/bytealg.abigen_runtime_cmpstring"], unfollowed := true, recurses := true, named := ["internal/bytealg.MaxLen", "legation/number.powers", "internal/strconv.uint64pow10", "math/bits.deBruijn32tab", "math/bits.deBruijn64tab"], plainKeys := false, apart := false, laid := [("math/bits.deBruijn32tab", laid_math_bits_deBruijn32tab), ("math/bits.deBruijn64tab", laid_math_bits_deBruijn64tab), ("internal/strconv.uint64pow10", laid_internal_strconv_uint64pow10), ("legation/number.powers", laid_legation_number_powers)] }
def ShapePermutedSaid : Prop := shapePermutedRow.holds Tryz.pinned (OpenSpec.ofChange shapePermutedSpec)

/-- ITS FALSE NEIGHBOUR: 'it returns false'. Refute it at one input. -/
def shapePermutedWrong : ChangeSpec := { name := "shapePermuted", fn := fun _ => fun
  | [d1, d2, d3] => { results := [.lit (.bool false)], args := [d1, d2, d3] }
  | _ => none }
def ShapePermutedWrongFalsely : Prop := shapePermutedRow.holds Tryz.pinned (OpenSpec.ofChange shapePermutedWrong)

/-- 'legationlaw12.ShapeTiles': WHATEVER THE INPUT: true; the input reads as it did. -/
def shapeTilesSpec : ChangeSpec := { name := "shapeTiles", fn := fun _ => fun
  | [d1, d2] => { results := [.lit (.bool true)], args := [d1, d2] }
  | _ => none }
def shapeTilesRow : OpenClaim := { program := "ytkfemnjblbnclaagreatdoor", sum := "df8295f6cf0f6147caa84e62be200e6877f34c87e435d197ece8ba6073f13857", func := "legation/legationlaw12.ShapeTiles", spec := "shapeTiles", inPlace := ["internal/bytealg.IndexByteString", "internal/bytealg.IndexString", "internal/bytealg.abigen_runtime_cmpstring"], unfollowed := true, recurses := true, named := ["internal/bytealg.MaxLen", "legation/number.powers", "internal/strconv.uint64pow10", "math/bits.deBruijn32tab", "math/bits.deBruijn64tab"], plainKeys := false, apart := false, laid := [("math/bits.deBruijn32tab", laid_math_bits_deBruijn32tab), ("math/bits.deBruijn64tab", laid_math_bits_deBruijn64tab), ("internal/strconv.uint64pow10", laid_internal_strconv_uint64pow10), ("legation/number.powers", laid_legation_number_powers)] }
def ShapeTilesSaid : Prop := shapeTilesRow.holds Tryz.pinned (OpenSpec.ofChange shapeTilesSpec)

/-- ITS FALSE NEIGHBOUR: 'it returns false'. Refute it at one input. -/
def shapeTilesWrong : ChangeSpec := { name := "shapeTiles", fn := fun _ => fun
  | [d1, d2] => { results := [.lit (.bool false)], args := [d1, d2] }
  | _ => none }
def ShapeTilesWrongFalsely : Prop := shapeTilesRow.holds Tryz.pinned (OpenSpec.ofChange shapeTilesWrong)

/- THE SECOND FORM. 'bulk': how many values and letters a reading holds, each counted each time it is reached (what is shared counts as often as it is met; a slice's spare places count too). A statement '..UptoSaid' is the law's where the arguments, and the package variables that the reading takes, are together of bulk at most 1048576: NARROWER than '..Said'. Prove '..Said' where nothing that the law and all that it calls make is longer than what came in: it says more and counts as full. Else prove '..UptoSaid'. A law counts once. -/
mutual
def uptoBulk {H : Type} : DataW H → Nat
  | .lit (.string bytes) => bytes.length + 1
  | .lit _ => 1
  | .nil => 1
  | .ptr d => uptoBulk d + 1
  | .slice elems spare => uptoBulkAll elems + uptoBulkAll spare + 1
  | .agg parts => uptoBulkAll parts + 1
  | .iface _ d => uptoBulk d + 1
  | .map entries => uptoBulkEntries entries + 1
  | .held _ => 1
def uptoBulkAll {H : Type} : List (DataW H) → Nat
  | [] => 0
  | d :: r => uptoBulk d + uptoBulkAll r
def uptoBulkEntries {H : Type} : List (Lit × DataW H) → Nat
  | [] => 0
  | x :: r => uptoBulkEntry x + uptoBulkEntries r
def uptoBulkEntry {H : Type} : Lit × DataW H → Nat
  | (.string bytes, d) => bytes.length + uptoBulk d + 1
  | (_, d) => uptoBulk d + 1
 end
def uptoSmall : (H : Type) → List (DataW H) → Bool := fun _ ds => decide (uptoBulkAll ds ≤ 1048576)
def OpenSpec.upto (s : _root_.Go.ChangeSpec) : _root_.Go.OpenSpec := { _root_.Go.OpenSpec.ofChange s with cond := some uptoSmall }

/-- 'legationlaw12.ShapeCompares', WHERE WHAT IT READS IS OF BULK AT MOST 1048576: true; the input reads as it did. -/
def shapeComparesUptoRow : OpenClaim := { program := "ytkfemnjblbnclaagreatdoor", sum := "df8295f6cf0f6147caa84e62be200e6877f34c87e435d197ece8ba6073f13857", func := "legation/legationlaw12.ShapeCompares", spec := "shapeCompares", inPlace := ["internal/bytealg.IndexByteString", "internal/bytealg.IndexString", "internal/bytealg.abigen_runtime_cmpstring"], unfollowed := true, recurses := true, named := ["internal/bytealg.MaxLen", "legation/number.powers", "internal/strconv.uint64pow10", "math/bits.deBruijn32tab", "math/bits.deBruijn64tab"], plainKeys := false, apart := false, laid := [("math/bits.deBruijn32tab", laid_math_bits_deBruijn32tab), ("math/bits.deBruijn64tab", laid_math_bits_deBruijn64tab), ("internal/strconv.uint64pow10", laid_internal_strconv_uint64pow10), ("legation/number.powers", laid_legation_number_powers)], narrowed := true }
def ShapeComparesUptoSaid : Prop := shapeComparesUptoRow.holds Tryz.pinned (OpenSpec.upto shapeComparesSpec)

/-- 'legationlaw12.ShapeProjects', WHERE WHAT IT READS IS OF BULK AT MOST 1048576: true; the input reads as it did. -/
def shapeProjectsUptoRow : OpenClaim := { program := "ytkfemnjblbnclaagreatdoor", sum := "df8295f6cf0f6147caa84e62be200e6877f34c87e435d197ece8ba6073f13857", func := "legation/legationlaw12.ShapeProjects", spec := "shapeProjects", inPlace := ["internal/bytealg.IndexByteString", "internal/bytealg.IndexString", "internal/bytealg.abigen_runtime_cmpstring"], unfollowed := true, recurses := true, named := ["internal/bytealg.MaxLen", "legation/number.powers", "internal/strconv.uint64pow10", "math/bits.deBruijn32tab", "math/bits.deBruijn64tab"], plainKeys := false, apart := false, laid := [("math/bits.deBruijn32tab", laid_math_bits_deBruijn32tab), ("math/bits.deBruijn64tab", laid_math_bits_deBruijn64tab), ("internal/strconv.uint64pow10", laid_internal_strconv_uint64pow10), ("legation/number.powers", laid_legation_number_powers)], narrowed := true }
def ShapeProjectsUptoSaid : Prop := shapeProjectsUptoRow.holds Tryz.pinned (OpenSpec.upto shapeProjectsSpec)

/-- 'legationlaw12.ShapeOrders', WHERE WHAT IT READS IS OF BULK AT MOST 1048576: true; the input reads as it did. -/
def shapeOrdersUptoRow : OpenClaim := { program := "ytkfemnjblbnclaagreatdoor", sum := "df8295f6cf0f6147caa84e62be200e6877f34c87e435d197ece8ba6073f13857", func := "legation/legationlaw12.ShapeOrders", spec := "shapeOrders", inPlace := ["internal/bytealg.IndexByteString", "internal/bytealg.IndexString", "internal/bytealg.abigen_runtime_cmpstring"], unfollowed := true, recurses := true, named := ["internal/bytealg.MaxLen", "legation/number.powers", "internal/strconv.uint64pow10", "math/bits.deBruijn32tab", "math/bits.deBruijn64tab"], plainKeys := false, apart := false, laid := [("math/bits.deBruijn32tab", laid_math_bits_deBruijn32tab), ("math/bits.deBruijn64tab", laid_math_bits_deBruijn64tab), ("internal/strconv.uint64pow10", laid_internal_strconv_uint64pow10), ("legation/number.powers", laid_legation_number_powers)], narrowed := true }
def ShapeOrdersUptoSaid : Prop := shapeOrdersUptoRow.holds Tryz.pinned (OpenSpec.upto shapeOrdersSpec)

/-- 'legationlaw12.ShapeDistincts', WHERE WHAT IT READS IS OF BULK AT MOST 1048576: true; the input reads as it did. -/
def shapeDistinctsUptoRow : OpenClaim := { program := "ytkfemnjblbnclaagreatdoor", sum := "df8295f6cf0f6147caa84e62be200e6877f34c87e435d197ece8ba6073f13857", func := "legation/legationlaw12.ShapeDistincts", spec := "shapeDistincts", inPlace := ["internal/bytealg.IndexByteString", "internal/bytealg.IndexString", "internal/bytealg.abigen_runtime_cmpstring"], unfollowed := true, recurses := true, named := ["internal/bytealg.MaxLen", "legation/number.powers", "internal/strconv.uint64pow10", "math/bits.deBruijn32tab", "math/bits.deBruijn64tab"], plainKeys := false, apart := false, laid := [("math/bits.deBruijn32tab", laid_math_bits_deBruijn32tab), ("math/bits.deBruijn64tab", laid_math_bits_deBruijn64tab), ("internal/strconv.uint64pow10", laid_internal_strconv_uint64pow10), ("legation/number.powers", laid_legation_number_powers)], narrowed := true }
def ShapeDistinctsUptoSaid : Prop := shapeDistinctsUptoRow.holds Tryz.pinned (OpenSpec.upto shapeDistinctsSpec)

/-- 'legationlaw12.ShapeSlices', WHERE WHAT IT READS IS OF BULK AT MOST 1048576: true; the input reads as it did. -/
def shapeSlicesUptoRow : OpenClaim := { program := "ytkfemnjblbnclaagreatdoor", sum := "df8295f6cf0f6147caa84e62be200e6877f34c87e435d197ece8ba6073f13857", func := "legation/legationlaw12.ShapeSlices", spec := "shapeSlices", inPlace := ["internal/bytealg.IndexByteString", "internal/bytealg.IndexString", "internal/bytealg.abigen_runtime_cmpstring"], unfollowed := true, recurses := true, named := ["internal/bytealg.MaxLen", "legation/number.powers", "internal/strconv.uint64pow10", "math/bits.deBruijn32tab", "math/bits.deBruijn64tab"], plainKeys := false, apart := false, laid := [("math/bits.deBruijn32tab", laid_math_bits_deBruijn32tab), ("math/bits.deBruijn64tab", laid_math_bits_deBruijn64tab), ("internal/strconv.uint64pow10", laid_internal_strconv_uint64pow10), ("legation/number.powers", laid_legation_number_powers)], narrowed := true }
def ShapeSlicesUptoSaid : Prop := shapeSlicesUptoRow.holds Tryz.pinned (OpenSpec.upto shapeSlicesSpec)

/-- 'legationlaw12.ShapeSames', WHERE WHAT IT READS IS OF BULK AT MOST 1048576: true; the input reads as it did. -/
def shapeSamesUptoRow : OpenClaim := { program := "ytkfemnjblbnclaagreatdoor", sum := "df8295f6cf0f6147caa84e62be200e6877f34c87e435d197ece8ba6073f13857", func := "legation/legationlaw12.ShapeSames", spec := "shapeSames", inPlace := ["internal/bytealg.IndexByteString", "internal/bytealg.IndexString", "internal/bytealg.abigen_runtime_cmpstring"], unfollowed := true, recurses := true, named := ["internal/bytealg.MaxLen", "legation/number.powers", "internal/strconv.uint64pow10", "math/bits.deBruijn32tab", "math/bits.deBruijn64tab"], plainKeys := false, apart := false, laid := [("math/bits.deBruijn32tab", laid_math_bits_deBruijn32tab), ("math/bits.deBruijn64tab", laid_math_bits_deBruijn64tab), ("internal/strconv.uint64pow10", laid_internal_strconv_uint64pow10), ("legation/number.powers", laid_legation_number_powers)], narrowed := true }
def ShapeSamesUptoSaid : Prop := shapeSamesUptoRow.holds Tryz.pinned (OpenSpec.upto shapeSamesSpec)

/-- 'legationlaw12.ShapePermuted', WHERE WHAT IT READS IS OF BULK AT MOST 1048576: true; the input reads as it did. -/
def shapePermutedUptoRow : OpenClaim := { program := "ytkfemnjblbnclaagreatdoor", sum := "df8295f6cf0f6147caa84e62be200e6877f34c87e435d197ece8ba6073f13857", func := "legation/legationlaw12.ShapePermuted", spec := "shapePermuted", inPlace := ["internal/bytealg.IndexByteString", "internal/bytealg.IndexString", "internal/bytealg.abigen_runtime_cmpstring"], unfollowed := true, recurses := true, named := ["internal/bytealg.MaxLen", "legation/number.powers", "internal/strconv.uint64pow10", "math/bits.deBruijn32tab", "math/bits.deBruijn64tab"], plainKeys := false, apart := false, laid := [("math/bits.deBruijn32tab", laid_math_bits_deBruijn32tab), ("math/bits.deBruijn64tab", laid_math_bits_deBruijn64tab), ("internal/strconv.uint64pow10", laid_internal_strconv_uint64pow10), ("legation/number.powers", laid_legation_number_powers)], narrowed := true }
def ShapePermutedUptoSaid : Prop := shapePermutedUptoRow.holds Tryz.pinned (OpenSpec.upto shapePermutedSpec)

/-- 'legationlaw12.ShapeTiles', WHERE WHAT IT READS IS OF BULK AT MOST 1048576: true; the input reads as it did. -/
def shapeTilesUptoRow : OpenClaim := { program := "ytkfemnjblbnclaagreatdoor", sum := "df8295f6cf0f6147caa84e62be200e6877f34c87e435d197ece8ba6073f13857", func := "legation/legationlaw12.ShapeTiles", spec := "shapeTiles", inPlace := ["internal/bytealg.IndexByteString", "internal/bytealg.IndexString", "internal/bytealg.abigen_runtime_cmpstring"], unfollowed := true, recurses := true, named := ["internal/bytealg.MaxLen", "legation/number.powers", "internal/strconv.uint64pow10", "math/bits.deBruijn32tab", "math/bits.deBruijn64tab"], plainKeys := false, apart := false, laid := [("math/bits.deBruijn32tab", laid_math_bits_deBruijn32tab), ("math/bits.deBruijn64tab", laid_math_bits_deBruijn64tab), ("internal/strconv.uint64pow10", laid_internal_strconv_uint64pow10), ("legation/number.powers", laid_legation_number_powers)], narrowed := true }
def ShapeTilesUptoSaid : Prop := shapeTilesUptoRow.holds Tryz.pinned (OpenSpec.upto shapeTilesSpec)

end Rows
end Go.Proofs.YtkfemnjblbnclaaGreatDoor
