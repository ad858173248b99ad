/-
  DERIVED. GIVEN WITH THE SEED: THE CARDS: each row of YtdnfaoanaehjhaaGreatDoorRows.lean that lists a variable, with what it lists TIED to the program's text (the seventh form; the later family's looks); each row that meets fmt, with fmt's text TOLD by the authors' own Lean function (tested against real Go, not proved from fmt's source: count such statements apart). THE CARD IS WHAT COUNTS. Prove the row's statement (the work); the ties are given (YtdnfaoanaehjhaaGreatDoorTie.lean); close each card by the builder's one call (the guide's Derived/Test/ToyasCard.lean, 'card_holds'). Laid BY PROGRAM, IN A SANDBOX (cutbox-door.mjs). By AI agents, Wed Nov 11 2026. No macro, syntax, notation, axiom, sorry.
-/
import Derived.Test.YtdnfaoanaehjhaaGreatDoorRows
import GoSem.ClaimSeven
namespace Go.Proofs.YtdnfaoanaehjhaaGreatDoor
namespace Rows

/-- THE TIED CARD OF 'legationlaw13.GroupChecks'. -/
def groupChecksCard : Claim7 := { stood := { row := groupChecksRow, standIns := [], harness := (true, "db4d3d7addf4a29d8d898b32e5c0f76803685e49566db0780b586218560bb495"), looks := false }, kinds := [], alts := [], laidByText := true, laidKinds := [.data, .data, .data, .data], laidTests := true, laidLooks := .later }
def GroupChecksCardSaid : Prop := Claim7.holds Tryz.pinned (.plain (OpenSpec.ofChange groupChecksSpec)) groupChecksCard

/-- THE TIED CARD OF 'legationlaw13.GroupGroups'. -/
def groupGroupsCard : Claim7 := { stood := { row := groupGroupsRow, standIns := [], harness := (true, "db4d3d7addf4a29d8d898b32e5c0f76803685e49566db0780b586218560bb495"), looks := false }, kinds := [], alts := [], laidByText := true, laidKinds := [.data, .data, .data, .data], laidTests := true, laidLooks := .later }
def GroupGroupsCardSaid : Prop := Claim7.holds Tryz.pinned (.plain (OpenSpec.ofChange groupGroupsSpec)) groupGroupsCard

/-- THE TIED CARD OF 'legationlaw13.GroupOfs'. -/
def groupOfsCard : Claim7 := { stood := { row := groupOfsRow, standIns := [], harness := (true, "db4d3d7addf4a29d8d898b32e5c0f76803685e49566db0780b586218560bb495"), looks := false }, kinds := [], alts := [], laidByText := true, laidKinds := [.data, .data, .data, .data], laidTests := true, laidLooks := .later }
def GroupOfsCardSaid : Prop := Claim7.holds Tryz.pinned (.plain (OpenSpec.ofChange groupOfsSpec)) groupOfsCard

/-- THE TIED CARD OF 'legationlaw13.GroupCounts'. -/
def groupCountsCard : Claim7 := { stood := { row := groupCountsRow, standIns := [], harness := (true, "db4d3d7addf4a29d8d898b32e5c0f76803685e49566db0780b586218560bb495"), looks := false }, kinds := [], alts := [], laidByText := true, laidKinds := [.data, .data, .data, .data], laidTests := true, laidLooks := .later }
def GroupCountsCardSaid : Prop := Claim7.holds Tryz.pinned (.plain (OpenSpec.ofChange groupCountsSpec)) groupCountsCard

/-- THE TIED CARD OF 'legationlaw13.GroupOrder'. -/
def groupOrderCard : Claim7 := { stood := { row := groupOrderRow, standIns := [], harness := (true, "db4d3d7addf4a29d8d898b32e5c0f76803685e49566db0780b586218560bb495"), looks := false }, kinds := [], alts := [], laidByText := true, laidKinds := [.data, .data, .data, .data], laidTests := true, laidLooks := .later }
def GroupOrderCardSaid : Prop := Claim7.holds Tryz.pinned (.plain (OpenSpec.ofChange groupOrderSpec)) groupOrderCard

/-- THE TIED CARD OF 'legationlaw13.GroupEnds'. -/
def groupEndsCard : Claim7 := { stood := { row := groupEndsRow, standIns := [], harness := (true, "db4d3d7addf4a29d8d898b32e5c0f76803685e49566db0780b586218560bb495"), looks := false }, kinds := [], alts := [], laidByText := true, laidKinds := [.data, .data, .data, .data], laidTests := true, laidLooks := .later }
def GroupEndsCardSaid : Prop := Claim7.holds Tryz.pinned (.plain (OpenSpec.ofChange groupEndsSpec)) groupEndsCard

/-- THE SECOND FORM's CARD OF 'legationlaw13.GroupChecks'. -/
def groupChecksUptoCard : Claim7 := { stood := { row := groupChecksUptoRow, standIns := [], harness := (true, "db4d3d7addf4a29d8d898b32e5c0f76803685e49566db0780b586218560bb495"), looks := false }, kinds := [], alts := [], laidByText := true, laidKinds := [.data, .data, .data, .data], laidTests := true, laidLooks := .later }
def GroupChecksUptoCardSaid : Prop := Claim7.holds Tryz.pinned (.plain (OpenSpec.upto groupChecksSpec)) groupChecksUptoCard

/-- THE SECOND FORM's CARD OF 'legationlaw13.GroupGroups'. -/
def groupGroupsUptoCard : Claim7 := { stood := { row := groupGroupsUptoRow, standIns := [], harness := (true, "db4d3d7addf4a29d8d898b32e5c0f76803685e49566db0780b586218560bb495"), looks := false }, kinds := [], alts := [], laidByText := true, laidKinds := [.data, .data, .data, .data], laidTests := true, laidLooks := .later }
def GroupGroupsUptoCardSaid : Prop := Claim7.holds Tryz.pinned (.plain (OpenSpec.upto groupGroupsSpec)) groupGroupsUptoCard

/-- THE SECOND FORM's CARD OF 'legationlaw13.GroupOfs'. -/
def groupOfsUptoCard : Claim7 := { stood := { row := groupOfsUptoRow, standIns := [], harness := (true, "db4d3d7addf4a29d8d898b32e5c0f76803685e49566db0780b586218560bb495"), looks := false }, kinds := [], alts := [], laidByText := true, laidKinds := [.data, .data, .data, .data], laidTests := true, laidLooks := .later }
def GroupOfsUptoCardSaid : Prop := Claim7.holds Tryz.pinned (.plain (OpenSpec.upto groupOfsSpec)) groupOfsUptoCard

/-- THE SECOND FORM's CARD OF 'legationlaw13.GroupCounts'. -/
def groupCountsUptoCard : Claim7 := { stood := { row := groupCountsUptoRow, standIns := [], harness := (true, "db4d3d7addf4a29d8d898b32e5c0f76803685e49566db0780b586218560bb495"), looks := false }, kinds := [], alts := [], laidByText := true, laidKinds := [.data, .data, .data, .data], laidTests := true, laidLooks := .later }
def GroupCountsUptoCardSaid : Prop := Claim7.holds Tryz.pinned (.plain (OpenSpec.upto groupCountsSpec)) groupCountsUptoCard

/-- THE SECOND FORM's CARD OF 'legationlaw13.GroupOrder'. -/
def groupOrderUptoCard : Claim7 := { stood := { row := groupOrderUptoRow, standIns := [], harness := (true, "db4d3d7addf4a29d8d898b32e5c0f76803685e49566db0780b586218560bb495"), looks := false }, kinds := [], alts := [], laidByText := true, laidKinds := [.data, .data, .data, .data], laidTests := true, laidLooks := .later }
def GroupOrderUptoCardSaid : Prop := Claim7.holds Tryz.pinned (.plain (OpenSpec.upto groupOrderSpec)) groupOrderUptoCard

/-- THE SECOND FORM's CARD OF 'legationlaw13.GroupEnds'. -/
def groupEndsUptoCard : Claim7 := { stood := { row := groupEndsUptoRow, standIns := [], harness := (true, "db4d3d7addf4a29d8d898b32e5c0f76803685e49566db0780b586218560bb495"), looks := false }, kinds := [], alts := [], laidByText := true, laidKinds := [.data, .data, .data, .data], laidTests := true, laidLooks := .later }
def GroupEndsUptoCardSaid : Prop := Claim7.holds Tryz.pinned (.plain (OpenSpec.upto groupEndsSpec)) groupEndsUptoCard
end Rows
end Go.Proofs.YtdnfaoanaehjhaaGreatDoor
