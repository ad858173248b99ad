/-
  NARROWER THAN 'FOR EVERY INPUT', by the rows' own cells (each row's printed sentence says how): FormulaFroms: laid · FormulaBinds: laid.
  DERIVED. THE GIVEN ROWS OF THIS SEAT. 2 by the template 'for every input the law returns true; each argument reads behind the call as it read before'; 0 by the template 'total and deterministic' (their statements: YtgkpdcjkobieiaaDoorTotals.lean).
  GIVEN WITH THE SEED: the statements are not yours to turn. If you find one false, say at which input.
  Laid BY PROGRAM, IN A SANDBOX (cutbox-rows.mjs): the forced cells as the released guide's own fill.sh prints them over the translation c20571a5420e736c… (all of the seat's roots in one cut). By AI agents, Wed Nov 11 2026. No macro, syntax, notation, axiom, sorry.
-/
import Derived.Test.YtgkpdcjkobieiaaDoorChecked
import GoSem.PinnedTables
import GoSem.Claim
import GoSem.ClaimJoined
import GoSem.ClaimMapViews
import Derived.JoinedTies
import Derived.KernelRfl
namespace Go.Proofs.YtgkpdcjkobieiaaDoor
/- THE CELL 'sum', in the pinned program and in every row, IS THE sha256 OF THE DUMP (.gsa) THAT YtgkpdcjkobieiaaDoorProg.lean LOADS. Nothing in Lean hashes anything: it is a label: what it is worth is what the hold of that sum in a sandbox is worth. -/
noncomputable def Tryd.pinned : Pinned := { name := "ytgkpdcjkobieiaadoor", sum := "c20571a5420e736c282ab2c15f07b4b17d9857ad77f20e950a1cdc9dfde18d3e", checked := Tryd.checked }
namespace Rows
def none {H : Type} : Left H := { results := [], args := [] }

/- WHAT THE LISTED PACKAGE-LEVEL VARIABLES READ AS WHEN THE CALL BEGINS. Each datum BY PROGRAM (the guide's laid-datum.mjs) off the statement by which the dump's own 'gosem.cut.vars' lays the variable. In a bare row this is a premise. The card (YtgkpdcjkobieiaaDoorCards.lean) ties it to the program's text. -/
def laid_unicode_utf8_acceptRanges {H : Type} : DataW H := .agg [.agg [.lit (.int .u8 128), .lit (.int .u8 191)], .agg [.lit (.int .u8 160), .lit (.int .u8 191)], .agg [.lit (.int .u8 128), .lit (.int .u8 159)], .agg [.lit (.int .u8 144), .lit (.int .u8 191)], .agg [.lit (.int .u8 128), .lit (.int .u8 143)], .agg [.lit (.int .u8 0), .lit (.int .u8 0)], .agg [.lit (.int .u8 0), .lit (.int .u8 0)], .agg [.lit (.int .u8 0), .lit (.int .u8 0)], .agg [.lit (.int .u8 0), .lit (.int .u8 0)], .agg [.lit (.int .u8 0), .lit (.int .u8 0)], .agg [.lit (.int .u8 0), .lit (.int .u8 0)], .agg [.lit (.int .u8 0), .lit (.int .u8 0)], .agg [.lit (.int .u8 0), .lit (.int .u8 0)], .agg [.lit (.int .u8 0), .lit (.int .u8 0)], .agg [.lit (.int .u8 0), .lit (.int .u8 0)], .agg [.lit (.int .u8 0), .lit (.int .u8 0)]]
def laid_legation_formula_levels {H : Type} : DataW H := .agg [.agg [.lit (.int .i64 7), .lit (.int .i64 7), .lit (.bool false)], .agg [.lit (.int .i64 6), .lit (.int .i64 6), .lit (.bool false)], .agg [.lit (.int .i64 8), .lit (.int .i64 13), .lit (.bool true)], .agg [.lit (.int .i64 14), .lit (.int .i64 15), .lit (.bool false)], .agg [.lit (.int .i64 16), .lit (.int .i64 17), .lit (.bool false)]]
def laid_legation_formula_marks {H : Type} : DataW H := .agg [.lit (.string []), .lit (.string []), .lit (.string []), .lit (.string [66, 79, 85, 78, 68]), .lit (.string [33]), .lit (.string [45]), .lit (.string [38, 38]), .lit (.string [124, 124]), .lit (.string [61]), .lit (.string [33, 61]), .lit (.string [60]), .lit (.string [62]), .lit (.string [60, 61]), .lit (.string [62, 61]), .lit (.string [43]), .lit (.string [45]), .lit (.string [42]), .lit (.string [47]), .lit (.string [83, 84, 82]), .lit (.string [76, 65, 78, 71]), .lit (.string [68, 65, 84, 65, 84, 89, 80, 69]), .lit (.string [73, 83, 73, 82, 73]), .lit (.string [73, 83, 76, 73, 84, 69, 82, 65, 76]), .lit (.string [73, 83, 66, 76, 65, 78, 75]), .lit (.string [83, 65, 77, 69, 84, 69, 82, 77]), .lit (.string [73, 70]), .lit (.string [67, 79, 65, 76, 69, 83, 67, 69])]
/-- One of Go's own tables, pinned by name: the form's constant. -/
def laid_unicode_CaseRanges : DataW Unit := Go.Pinned.caseRanges
/-- One of Go's own tables, pinned by name: the form's constant. -/
def laid_unicode_utf8_first : DataW Unit := Go.Pinned.utf8First

/-- 'legationlaw06.FormulaFroms': WHATEVER THE INPUT: true; the input reads as it did. -/
def formulaFromsSpec : ChangeSpec := { name := "formulaFroms", fn := fun _ => fun
  | [d1, d2] => { results := [.lit (.bool true)], args := [d1, d2] }
  | _ => none }
def formulaFromsRow : OpenClaim := { program := "ytgkpdcjkobieiaadoor", sum := "c20571a5420e736c282ab2c15f07b4b17d9857ad77f20e950a1cdc9dfde18d3e", func := "legation/legationlaw06.FormulaFroms", spec := "formulaFroms", inPlace := ["internal/bytealg.IndexByteString", "internal/bytealg.IndexString", "internal/abi.NoEscape", "internal/bytealg.MakeNoZero"], unfollowed := true, recurses := true, named := ["legation/formula.levels", "legation/formula.marks", "unicode/utf8.first", "unicode/utf8.acceptRanges", "unicode.CaseRanges", "internal/bytealg.MaxLen"], apart := false, laid := [("unicode/utf8.acceptRanges", laid_unicode_utf8_acceptRanges), ("legation/formula.levels", laid_legation_formula_levels), ("legation/formula.marks", laid_legation_formula_marks), ("unicode.CaseRanges", laid_unicode_CaseRanges), ("unicode/utf8.first", laid_unicode_utf8_first)] }
def FormulaFromsSaid : Prop := formulaFromsRow.holds Tryd.pinned (OpenSpec.ofChange formulaFromsSpec)

/-- ITS FALSE NEIGHBOUR: 'it returns false'. Refute it at one input. -/
def formulaFromsWrong : ChangeSpec := { name := "formulaFroms", fn := fun _ => fun
  | [d1, d2] => { results := [.lit (.bool false)], args := [d1, d2] }
  | _ => none }
def FormulaFromsWrongFalsely : Prop := formulaFromsRow.holds Tryd.pinned (OpenSpec.ofChange formulaFromsWrong)

/-- 'legationlaw06.FormulaBinds': WHATEVER THE INPUT: true; the input reads as it did. -/
def formulaBindsSpec : ChangeSpec := { name := "formulaBinds", fn := fun _ => fun
  | [d1, d2] => { results := [.lit (.bool true)], args := [d1, d2] }
  | _ => none }
def formulaBindsRow : OpenClaim := { program := "ytgkpdcjkobieiaadoor", sum := "c20571a5420e736c282ab2c15f07b4b17d9857ad77f20e950a1cdc9dfde18d3e", func := "legation/legationlaw06.FormulaBinds", spec := "formulaBinds", inPlace := ["internal/bytealg.IndexByteString", "internal/bytealg.IndexString", "internal/abi.NoEscape", "internal/bytealg.MakeNoZero"], unfollowed := true, recurses := true, named := ["legation/formula.levels", "legation/formula.marks", "unicode/utf8.first", "unicode/utf8.acceptRanges", "unicode.CaseRanges", "internal/bytealg.MaxLen"], apart := false, laid := [("unicode/utf8.acceptRanges", laid_unicode_utf8_acceptRanges), ("legation/formula.levels", laid_legation_formula_levels), ("legation/formula.marks", laid_legation_formula_marks), ("unicode.CaseRanges", laid_unicode_CaseRanges), ("unicode/utf8.first", laid_unicode_utf8_first)] }
def FormulaBindsSaid : Prop := formulaBindsRow.holds Tryd.pinned (OpenSpec.ofChange formulaBindsSpec)

/-- ITS FALSE NEIGHBOUR: 'it returns false'. Refute it at one input. -/
def formulaBindsWrong : ChangeSpec := { name := "formulaBinds", fn := fun _ => fun
  | [d1, d2] => { results := [.lit (.bool false)], args := [d1, d2] }
  | _ => none }
def FormulaBindsWrongFalsely : Prop := formulaBindsRow.holds Tryd.pinned (OpenSpec.ofChange formulaBindsWrong)

/- THE SECOND FORM. 'bulk': how many values and letters a reading holds, each counted each time it is reached (what is shared counts as often as it is met; a slice's spare places count too). A statement '..UptoSaid' is the law's where the arguments, and the package variables that the reading takes, are together of bulk at most 1048576: NARROWER than '..Said'. Prove '..Said' where nothing that the law and all that it calls make is longer than what came in: it says more and counts as full. Else prove '..UptoSaid'. A law counts once. -/
mutual
def uptoBulk {H : Type} : DataW H → Nat
  | .lit (.string bytes) => bytes.length + 1
  | .lit _ => 1
  | .nil => 1
  | .ptr d => uptoBulk d + 1
  | .slice elems spare => uptoBulkAll elems + uptoBulkAll spare + 1
  | .agg parts => uptoBulkAll parts + 1
  | .iface _ d => uptoBulk d + 1
  | .map entries => uptoBulkEntries entries + 1
  | .held _ => 1
def uptoBulkAll {H : Type} : List (DataW H) → Nat
  | [] => 0
  | d :: r => uptoBulk d + uptoBulkAll r
def uptoBulkEntries {H : Type} : List (Lit × DataW H) → Nat
  | [] => 0
  | x :: r => uptoBulkEntry x + uptoBulkEntries r
def uptoBulkEntry {H : Type} : Lit × DataW H → Nat
  | (.string bytes, d) => bytes.length + uptoBulk d + 1
  | (_, d) => uptoBulk d + 1
 end
def uptoSmall : (H : Type) → List (DataW H) → Bool := fun _ ds => decide (uptoBulkAll ds ≤ 1048576)
def OpenSpec.upto (s : _root_.Go.ChangeSpec) : _root_.Go.OpenSpec := { _root_.Go.OpenSpec.ofChange s with cond := some uptoSmall }

/-- 'legationlaw06.FormulaFroms', WHERE WHAT IT READS IS OF BULK AT MOST 1048576: true; the input reads as it did. -/
def formulaFromsUptoRow : OpenClaim := { program := "ytgkpdcjkobieiaadoor", sum := "c20571a5420e736c282ab2c15f07b4b17d9857ad77f20e950a1cdc9dfde18d3e", func := "legation/legationlaw06.FormulaFroms", spec := "formulaFroms", inPlace := ["internal/bytealg.IndexByteString", "internal/bytealg.IndexString", "internal/abi.NoEscape", "internal/bytealg.MakeNoZero"], unfollowed := true, recurses := true, named := ["legation/formula.levels", "legation/formula.marks", "unicode/utf8.first", "unicode/utf8.acceptRanges", "unicode.CaseRanges", "internal/bytealg.MaxLen"], apart := false, laid := [("unicode/utf8.acceptRanges", laid_unicode_utf8_acceptRanges), ("legation/formula.levels", laid_legation_formula_levels), ("legation/formula.marks", laid_legation_formula_marks), ("unicode.CaseRanges", laid_unicode_CaseRanges), ("unicode/utf8.first", laid_unicode_utf8_first)], narrowed := true }
def FormulaFromsUptoSaid : Prop := formulaFromsUptoRow.holds Tryd.pinned (OpenSpec.upto formulaFromsSpec)

/-- 'legationlaw06.FormulaBinds', WHERE WHAT IT READS IS OF BULK AT MOST 1048576: true; the input reads as it did. -/
def formulaBindsUptoRow : OpenClaim := { program := "ytgkpdcjkobieiaadoor", sum := "c20571a5420e736c282ab2c15f07b4b17d9857ad77f20e950a1cdc9dfde18d3e", func := "legation/legationlaw06.FormulaBinds", spec := "formulaBinds", inPlace := ["internal/bytealg.IndexByteString", "internal/bytealg.IndexString", "internal/abi.NoEscape", "internal/bytealg.MakeNoZero"], unfollowed := true, recurses := true, named := ["legation/formula.levels", "legation/formula.marks", "unicode/utf8.first", "unicode/utf8.acceptRanges", "unicode.CaseRanges", "internal/bytealg.MaxLen"], apart := false, laid := [("unicode/utf8.acceptRanges", laid_unicode_utf8_acceptRanges), ("legation/formula.levels", laid_legation_formula_levels), ("legation/formula.marks", laid_legation_formula_marks), ("unicode.CaseRanges", laid_unicode_CaseRanges), ("unicode/utf8.first", laid_unicode_utf8_first)], narrowed := true }
def FormulaBindsUptoSaid : Prop := formulaBindsUptoRow.holds Tryd.pinned (OpenSpec.upto formulaBindsSpec)

end Rows
end Go.Proofs.YtgkpdcjkobieiaaDoor
