/-
  DERIVED. GIVEN WITH THE SEED: THE CARDS: each row of YtkfemnjblbnclaaGreatDoorRows.lean that lists a variable, with what it lists TIED to the program's text (the seventh form; the later family's looks); each row that meets fmt, with fmt's text TOLD by the authors' own Lean function (tested against real Go, not proved from fmt's source: count such statements apart). THE CARD IS WHAT COUNTS. Prove the row's statement (the work); the ties are given (YtkfemnjblbnclaaGreatDoorTie.lean); close each card by the builder's one call (the guide's Derived/Test/ToyasCard.lean, 'card_holds'). Laid BY PROGRAM, IN A SANDBOX (cutbox-door.mjs). By AI agents, Wed Nov 11 2026. No macro, syntax, notation, axiom, sorry.
-/
import Derived.Test.YtkfemnjblbnclaaGreatDoorRows
import GoSem.ClaimSeven
namespace Go.Proofs.YtkfemnjblbnclaaGreatDoor
namespace Rows

/-- THE TIED CARD OF 'legationlaw12.ShapeCompares'. -/
def shapeComparesCard : Claim7 := { stood := { row := shapeComparesRow, standIns := [], harness := (true, "a1f9df92f999043b1157d2cda0a1281bc4b7c6677f9a84c0e0eee17d999fea64"), looks := false }, kinds := [], alts := [], laidByText := true, laidKinds := [.data, .data, .data, .data], laidTests := true, laidLooks := .later }
def ShapeComparesCardSaid : Prop := Claim7.holds Tryz.pinned (.plain (OpenSpec.ofChange shapeComparesSpec)) shapeComparesCard

/-- THE TIED CARD OF 'legationlaw12.ShapeProjects'. -/
def shapeProjectsCard : Claim7 := { stood := { row := shapeProjectsRow, standIns := [], harness := (true, "a1f9df92f999043b1157d2cda0a1281bc4b7c6677f9a84c0e0eee17d999fea64"), looks := false }, kinds := [], alts := [], laidByText := true, laidKinds := [.data, .data, .data, .data], laidTests := true, laidLooks := .later }
def ShapeProjectsCardSaid : Prop := Claim7.holds Tryz.pinned (.plain (OpenSpec.ofChange shapeProjectsSpec)) shapeProjectsCard

/-- THE TIED CARD OF 'legationlaw12.ShapeOrders'. -/
def shapeOrdersCard : Claim7 := { stood := { row := shapeOrdersRow, standIns := [], harness := (true, "a1f9df92f999043b1157d2cda0a1281bc4b7c6677f9a84c0e0eee17d999fea64"), looks := false }, kinds := [], alts := [], laidByText := true, laidKinds := [.data, .data, .data, .data], laidTests := true, laidLooks := .later }
def ShapeOrdersCardSaid : Prop := Claim7.holds Tryz.pinned (.plain (OpenSpec.ofChange shapeOrdersSpec)) shapeOrdersCard

/-- THE TIED CARD OF 'legationlaw12.ShapeDistincts'. -/
def shapeDistinctsCard : Claim7 := { stood := { row := shapeDistinctsRow, standIns := [], harness := (true, "a1f9df92f999043b1157d2cda0a1281bc4b7c6677f9a84c0e0eee17d999fea64"), looks := false }, kinds := [], alts := [], laidByText := true, laidKinds := [.data, .data, .data, .data], laidTests := true, laidLooks := .later }
def ShapeDistinctsCardSaid : Prop := Claim7.holds Tryz.pinned (.plain (OpenSpec.ofChange shapeDistinctsSpec)) shapeDistinctsCard

/-- THE TIED CARD OF 'legationlaw12.ShapeSlices'. -/
def shapeSlicesCard : Claim7 := { stood := { row := shapeSlicesRow, standIns := [], harness := (true, "a1f9df92f999043b1157d2cda0a1281bc4b7c6677f9a84c0e0eee17d999fea64"), looks := false }, kinds := [], alts := [], laidByText := true, laidKinds := [.data, .data, .data, .data], laidTests := true, laidLooks := .later }
def ShapeSlicesCardSaid : Prop := Claim7.holds Tryz.pinned (.plain (OpenSpec.ofChange shapeSlicesSpec)) shapeSlicesCard

/-- THE TIED CARD OF 'legationlaw12.ShapeSames'. -/
def shapeSamesCard : Claim7 := { stood := { row := shapeSamesRow, standIns := [], harness := (true, "a1f9df92f999043b1157d2cda0a1281bc4b7c6677f9a84c0e0eee17d999fea64"), looks := false }, kinds := [], alts := [], laidByText := true, laidKinds := [.data, .data, .data, .data], laidTests := true, laidLooks := .later }
def ShapeSamesCardSaid : Prop := Claim7.holds Tryz.pinned (.plain (OpenSpec.ofChange shapeSamesSpec)) shapeSamesCard

/-- THE TIED CARD OF 'legationlaw12.ShapePermuted'. -/
def shapePermutedCard : Claim7 := { stood := { row := shapePermutedRow, standIns := [], harness := (true, "a1f9df92f999043b1157d2cda0a1281bc4b7c6677f9a84c0e0eee17d999fea64"), looks := false }, kinds := [], alts := [], laidByText := true, laidKinds := [.data, .data, .data, .data], laidTests := true, laidLooks := .later }
def ShapePermutedCardSaid : Prop := Claim7.holds Tryz.pinned (.plain (OpenSpec.ofChange shapePermutedSpec)) shapePermutedCard

/-- THE TIED CARD OF 'legationlaw12.ShapeTiles'. -/
def shapeTilesCard : Claim7 := { stood := { row := shapeTilesRow, standIns := [], harness := (true, "a1f9df92f999043b1157d2cda0a1281bc4b7c6677f9a84c0e0eee17d999fea64"), looks := false }, kinds := [], alts := [], laidByText := true, laidKinds := [.data, .data, .data, .data], laidTests := true, laidLooks := .later }
def ShapeTilesCardSaid : Prop := Claim7.holds Tryz.pinned (.plain (OpenSpec.ofChange shapeTilesSpec)) shapeTilesCard

/-- THE SECOND FORM's CARD OF 'legationlaw12.ShapeCompares'. -/
def shapeComparesUptoCard : Claim7 := { stood := { row := shapeComparesUptoRow, standIns := [], harness := (true, "a1f9df92f999043b1157d2cda0a1281bc4b7c6677f9a84c0e0eee17d999fea64"), looks := false }, kinds := [], alts := [], laidByText := true, laidKinds := [.data, .data, .data, .data], laidTests := true, laidLooks := .later }
def ShapeComparesUptoCardSaid : Prop := Claim7.holds Tryz.pinned (.plain (OpenSpec.upto shapeComparesSpec)) shapeComparesUptoCard

/-- THE SECOND FORM's CARD OF 'legationlaw12.ShapeProjects'. -/
def shapeProjectsUptoCard : Claim7 := { stood := { row := shapeProjectsUptoRow, standIns := [], harness := (true, "a1f9df92f999043b1157d2cda0a1281bc4b7c6677f9a84c0e0eee17d999fea64"), looks := false }, kinds := [], alts := [], laidByText := true, laidKinds := [.data, .data, .data, .data], laidTests := true, laidLooks := .later }
def ShapeProjectsUptoCardSaid : Prop := Claim7.holds Tryz.pinned (.plain (OpenSpec.upto shapeProjectsSpec)) shapeProjectsUptoCard

/-- THE SECOND FORM's CARD OF 'legationlaw12.ShapeOrders'. -/
def shapeOrdersUptoCard : Claim7 := { stood := { row := shapeOrdersUptoRow, standIns := [], harness := (true, "a1f9df92f999043b1157d2cda0a1281bc4b7c6677f9a84c0e0eee17d999fea64"), looks := false }, kinds := [], alts := [], laidByText := true, laidKinds := [.data, .data, .data, .data], laidTests := true, laidLooks := .later }
def ShapeOrdersUptoCardSaid : Prop := Claim7.holds Tryz.pinned (.plain (OpenSpec.upto shapeOrdersSpec)) shapeOrdersUptoCard

/-- THE SECOND FORM's CARD OF 'legationlaw12.ShapeDistincts'. -/
def shapeDistinctsUptoCard : Claim7 := { stood := { row := shapeDistinctsUptoRow, standIns := [], harness := (true, "a1f9df92f999043b1157d2cda0a1281bc4b7c6677f9a84c0e0eee17d999fea64"), looks := false }, kinds := [], alts := [], laidByText := true, laidKinds := [.data, .data, .data, .data], laidTests := true, laidLooks := .later }
def ShapeDistinctsUptoCardSaid : Prop := Claim7.holds Tryz.pinned (.plain (OpenSpec.upto shapeDistinctsSpec)) shapeDistinctsUptoCard

/-- THE SECOND FORM's CARD OF 'legationlaw12.ShapeSlices'. -/
def shapeSlicesUptoCard : Claim7 := { stood := { row := shapeSlicesUptoRow, standIns := [], harness := (true, "a1f9df92f999043b1157d2cda0a1281bc4b7c6677f9a84c0e0eee17d999fea64"), looks := false }, kinds := [], alts := [], laidByText := true, laidKinds := [.data, .data, .data, .data], laidTests := true, laidLooks := .later }
def ShapeSlicesUptoCardSaid : Prop := Claim7.holds Tryz.pinned (.plain (OpenSpec.upto shapeSlicesSpec)) shapeSlicesUptoCard

/-- THE SECOND FORM's CARD OF 'legationlaw12.ShapeSames'. -/
def shapeSamesUptoCard : Claim7 := { stood := { row := shapeSamesUptoRow, standIns := [], harness := (true, "a1f9df92f999043b1157d2cda0a1281bc4b7c6677f9a84c0e0eee17d999fea64"), looks := false }, kinds := [], alts := [], laidByText := true, laidKinds := [.data, .data, .data, .data], laidTests := true, laidLooks := .later }
def ShapeSamesUptoCardSaid : Prop := Claim7.holds Tryz.pinned (.plain (OpenSpec.upto shapeSamesSpec)) shapeSamesUptoCard

/-- THE SECOND FORM's CARD OF 'legationlaw12.ShapePermuted'. -/
def shapePermutedUptoCard : Claim7 := { stood := { row := shapePermutedUptoRow, standIns := [], harness := (true, "a1f9df92f999043b1157d2cda0a1281bc4b7c6677f9a84c0e0eee17d999fea64"), looks := false }, kinds := [], alts := [], laidByText := true, laidKinds := [.data, .data, .data, .data], laidTests := true, laidLooks := .later }
def ShapePermutedUptoCardSaid : Prop := Claim7.holds Tryz.pinned (.plain (OpenSpec.upto shapePermutedSpec)) shapePermutedUptoCard

/-- THE SECOND FORM's CARD OF 'legationlaw12.ShapeTiles'. -/
def shapeTilesUptoCard : Claim7 := { stood := { row := shapeTilesUptoRow, standIns := [], harness := (true, "a1f9df92f999043b1157d2cda0a1281bc4b7c6677f9a84c0e0eee17d999fea64"), looks := false }, kinds := [], alts := [], laidByText := true, laidKinds := [.data, .data, .data, .data], laidTests := true, laidLooks := .later }
def ShapeTilesUptoCardSaid : Prop := Claim7.holds Tryz.pinned (.plain (OpenSpec.upto shapeTilesSpec)) shapeTilesUptoCard
end Rows
end Go.Proofs.YtkfemnjblbnclaaGreatDoor
