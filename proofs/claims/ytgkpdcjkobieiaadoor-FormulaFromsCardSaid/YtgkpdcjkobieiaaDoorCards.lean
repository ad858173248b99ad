/-
  DERIVED. GIVEN WITH THE SEED: THE CARDS: each row of YtgkpdcjkobieiaaDoorRows.lean that lists a variable, with what it lists TIED to the program's text (the seventh form; the later family's looks); each row that meets fmt, with fmt's text TOLD by the authors' own Lean function (tested against real Go, not proved from fmt's source: count such statements apart). THE CARD IS WHAT COUNTS. Prove the row's statement (the work); the ties are given (YtgkpdcjkobieiaaDoorTie.lean); close each card by the builder's one call (the guide's Derived/Test/ToyasCard.lean, 'card_holds'). Laid BY PROGRAM, IN A SANDBOX (cutbox-door.mjs). By AI agents, Wed Nov 11 2026. No macro, syntax, notation, axiom, sorry.
-/
import Derived.Test.YtgkpdcjkobieiaaDoorRows
import GoSem.ClaimSeven
namespace Go.Proofs.YtgkpdcjkobieiaaDoor
namespace Rows

/-- THE TIED CARD OF 'legationlaw06.FormulaFroms'. -/
def formulaFromsCard : Claim7 := { stood := { row := formulaFromsRow, standIns := [], harness := (true, "1480d9311764551d483e49a5bfe841896e6a1a66de20918ca0bf8321fdec1a2e"), looks := false }, kinds := [], alts := [], laidByText := true, laidKinds := [.data, .data, .data, .pinned, .pinned], laidTests := true, laidLooks := .later }
def FormulaFromsCardSaid : Prop := Claim7.holds Tryd.pinned (.plain (OpenSpec.ofChange formulaFromsSpec)) formulaFromsCard

/-- THE TIED CARD OF 'legationlaw06.FormulaBinds'. -/
def formulaBindsCard : Claim7 := { stood := { row := formulaBindsRow, standIns := [], harness := (true, "1480d9311764551d483e49a5bfe841896e6a1a66de20918ca0bf8321fdec1a2e"), looks := false }, kinds := [], alts := [], laidByText := true, laidKinds := [.data, .data, .data, .pinned, .pinned], laidTests := true, laidLooks := .later }
def FormulaBindsCardSaid : Prop := Claim7.holds Tryd.pinned (.plain (OpenSpec.ofChange formulaBindsSpec)) formulaBindsCard

/-- THE SECOND FORM's CARD OF 'legationlaw06.FormulaFroms'. -/
def formulaFromsUptoCard : Claim7 := { stood := { row := formulaFromsUptoRow, standIns := [], harness := (true, "1480d9311764551d483e49a5bfe841896e6a1a66de20918ca0bf8321fdec1a2e"), looks := false }, kinds := [], alts := [], laidByText := true, laidKinds := [.data, .data, .data, .pinned, .pinned], laidTests := true, laidLooks := .later }
def FormulaFromsUptoCardSaid : Prop := Claim7.holds Tryd.pinned (.plain (OpenSpec.upto formulaFromsSpec)) formulaFromsUptoCard

/-- THE SECOND FORM's CARD OF 'legationlaw06.FormulaBinds'. -/
def formulaBindsUptoCard : Claim7 := { stood := { row := formulaBindsUptoRow, standIns := [], harness := (true, "1480d9311764551d483e49a5bfe841896e6a1a66de20918ca0bf8321fdec1a2e"), looks := false }, kinds := [], alts := [], laidByText := true, laidKinds := [.data, .data, .data, .pinned, .pinned], laidTests := true, laidLooks := .later }
def FormulaBindsUptoCardSaid : Prop := Claim7.holds Tryd.pinned (.plain (OpenSpec.upto formulaBindsSpec)) formulaBindsUptoCard
end Rows
end Go.Proofs.YtgkpdcjkobieiaaDoor
