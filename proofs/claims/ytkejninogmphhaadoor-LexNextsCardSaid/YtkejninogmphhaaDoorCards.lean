/-
  DERIVED. GIVEN WITH THE SEED: THE CARDS: each row of YtkejninogmphhaaDoorRows.lean that lists a variable, with what it lists TIED to the program's text (the seventh form; the later family's looks); each row that meets fmt, with fmt's text TOLD by the authors' own Lean function (tested against real Go, not proved from fmt's source: count such statements apart). THE CARD IS WHAT COUNTS. Prove the row's statement (the work); the ties are given (YtkejninogmphhaaDoorTie.lean); close each card by the builder's one call (the guide's Derived/Test/ToyasCard.lean, 'card_holds'). Laid BY PROGRAM, IN A SANDBOX (cutbox-door.mjs). By AI agents, Wed Nov 11 2026. No macro, syntax, notation, axiom, sorry.
-/
import Derived.Test.YtkejninogmphhaaDoorRows
import GoSem.ClaimSeven
namespace Go.Proofs.YtkejninogmphhaaDoor
namespace Rows

/-- THE TIED CARD OF 'legationlaw05.LexLexes'. -/
def lexLexesCard : Claim7 := { stood := { row := lexLexesRow, standIns := [], harness := (true, "d615893d890b5ae724b6ca6abf7c17afe87158fa534fe21a9d6402f8b786d3f5"), looks := false }, kinds := [], alts := [], laidByText := true, laidKinds := [.data, .pinned], laidTests := true, laidLooks := .later }
def LexLexesCardSaid : Prop := Claim7.holds Tryd.pinned (.plain (OpenSpec.ofChange lexLexesSpec)) lexLexesCard

/-- THE TIED CARD OF 'legationlaw05.LexNexts'. -/
def lexNextsCard : Claim7 := { stood := { row := lexNextsRow, standIns := [], harness := (true, "d615893d890b5ae724b6ca6abf7c17afe87158fa534fe21a9d6402f8b786d3f5"), looks := false }, kinds := [], alts := [], laidByText := true, laidKinds := [.data, .pinned], laidTests := true, laidLooks := .later }
def LexNextsCardSaid : Prop := Claim7.holds Tryd.pinned (.plain (OpenSpec.ofChange lexNextsSpec)) lexNextsCard

/-- THE TIED CARD OF 'legationlaw05.LexPlaces'. -/
def lexPlacesCard : Claim7 := { stood := { row := lexPlacesRow, standIns := [], harness := (true, "d615893d890b5ae724b6ca6abf7c17afe87158fa534fe21a9d6402f8b786d3f5"), looks := false }, kinds := [], alts := [], laidByText := true, laidKinds := [.data, .pinned], laidTests := true, laidLooks := .later }
def LexPlacesCardSaid : Prop := Claim7.holds Tryd.pinned (.plain (OpenSpec.ofChange lexPlacesSpec)) lexPlacesCard

/-- THE SECOND FORM's CARD OF 'legationlaw05.LexLexes'. -/
def lexLexesUptoCard : Claim7 := { stood := { row := lexLexesUptoRow, standIns := [], harness := (true, "d615893d890b5ae724b6ca6abf7c17afe87158fa534fe21a9d6402f8b786d3f5"), looks := false }, kinds := [], alts := [], laidByText := true, laidKinds := [.data, .pinned], laidTests := true, laidLooks := .later }
def LexLexesUptoCardSaid : Prop := Claim7.holds Tryd.pinned (.plain (OpenSpec.upto lexLexesSpec)) lexLexesUptoCard

/-- THE SECOND FORM's CARD OF 'legationlaw05.LexNexts'. -/
def lexNextsUptoCard : Claim7 := { stood := { row := lexNextsUptoRow, standIns := [], harness := (true, "d615893d890b5ae724b6ca6abf7c17afe87158fa534fe21a9d6402f8b786d3f5"), looks := false }, kinds := [], alts := [], laidByText := true, laidKinds := [.data, .pinned], laidTests := true, laidLooks := .later }
def LexNextsUptoCardSaid : Prop := Claim7.holds Tryd.pinned (.plain (OpenSpec.upto lexNextsSpec)) lexNextsUptoCard

/-- THE SECOND FORM's CARD OF 'legationlaw05.LexPlaces'. -/
def lexPlacesUptoCard : Claim7 := { stood := { row := lexPlacesUptoRow, standIns := [], harness := (true, "d615893d890b5ae724b6ca6abf7c17afe87158fa534fe21a9d6402f8b786d3f5"), looks := false }, kinds := [], alts := [], laidByText := true, laidKinds := [.data, .pinned], laidTests := true, laidLooks := .later }
def LexPlacesUptoCardSaid : Prop := Claim7.holds Tryd.pinned (.plain (OpenSpec.upto lexPlacesSpec)) lexPlacesUptoCard
end Rows
end Go.Proofs.YtkejninogmphhaaDoor
