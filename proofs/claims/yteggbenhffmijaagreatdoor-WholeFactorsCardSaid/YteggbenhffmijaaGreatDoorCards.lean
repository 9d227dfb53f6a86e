/-
  DERIVED. GIVEN WITH THE SEED: THE CARDS: each row of YteggbenhffmijaaGreatDoorRows.lean that lists a variable, with what it lists TIED to the program's text (the seventh form; the later family's looks); each row that meets fmt, with fmt's text TOLD by the authors' own Lean function (tested against real Go, not proved from fmt's source: count such statements apart). THE CARD IS WHAT COUNTS. Prove the row's statement (the work); the ties are given (YteggbenhffmijaaGreatDoorTie.lean); close each card by the builder's one call (the guide's Derived/Test/ToyasCard.lean, 'card_holds'). Laid BY PROGRAM, IN A SANDBOX (cutbox-door.mjs). By AI agents, Wed Nov 11 2026. No macro, syntax, notation, axiom, sorry.
-/
import Derived.Test.YteggbenhffmijaaGreatDoorRows
import GoSem.ClaimSeven
namespace Go.Proofs.YteggbenhffmijaaGreatDoor
namespace Rows

/-- THE TIED CARD OF 'metewandlaw02.RatioField'. -/
def ratioFieldCard : Claim7 := { stood := { row := ratioFieldRow, standIns := [], harness := (true, "26278af25f1ca8c351057022f3c386ae6e07c6e13d83607bd2fc4edce185c415"), looks := true }, kinds := [], alts := [], goes := true, laidByText := true, laidKinds := [.data, .data, .data, .data, .handle, .pinned], laidTests := true, laidLooks := .later }
def RatioFieldCardSaid : Prop := Claim7.holds Tryz.pinned (.plain (OpenSpec.ofChange ratioFieldSpec)) ratioFieldCard

/-- THE TIED CARD OF 'metewandlaw02.RatioKnown'. -/
def ratioKnownCard : Claim7 := { stood := { row := ratioKnownRow, standIns := [], harness := (true, "26278af25f1ca8c351057022f3c386ae6e07c6e13d83607bd2fc4edce185c415"), looks := true }, kinds := [], alts := [], goes := true, laidByText := true, laidKinds := [.data, .data, .data, .data, .handle, .pinned], laidTests := true, laidLooks := .later }
def RatioKnownCardSaid : Prop := Claim7.holds Tryz.pinned (.plain (OpenSpec.ofChange ratioKnownSpec)) ratioKnownCard

/-- THE TIED CARD OF 'metewandlaw02.RatioOrder'. -/
def ratioOrderCard : Claim7 := { stood := { row := ratioOrderRow, standIns := [], harness := (true, "26278af25f1ca8c351057022f3c386ae6e07c6e13d83607bd2fc4edce185c415"), looks := true }, kinds := [], alts := [], goes := true, laidByText := true, laidKinds := [.data, .data, .data, .data, .handle, .pinned], laidTests := true, laidLooks := .later }
def RatioOrderCardSaid : Prop := Claim7.holds Tryz.pinned (.plain (OpenSpec.ofChange ratioOrderSpec)) ratioOrderCard

/-- THE TIED CARD OF 'metewandlaw02.RatioLowest'. -/
def ratioLowestCard : Claim7 := { stood := { row := ratioLowestRow, standIns := [], harness := (true, "26278af25f1ca8c351057022f3c386ae6e07c6e13d83607bd2fc4edce185c415"), looks := true }, kinds := [], alts := [], goes := true, laidByText := true, laidKinds := [.data, .data, .data, .data, .handle, .pinned], laidTests := true, laidLooks := .later }
def RatioLowestCardSaid : Prop := Claim7.holds Tryz.pinned (.plain (OpenSpec.ofChange ratioLowestSpec)) ratioLowestCard

/-- THE TIED CARD OF 'metewandlaw02.RatioPrints'. -/
def ratioPrintsCard : Claim7 := { stood := { row := ratioPrintsRow, standIns := [], harness := (true, "26278af25f1ca8c351057022f3c386ae6e07c6e13d83607bd2fc4edce185c415"), looks := true }, kinds := [], alts := [], goes := true, laidByText := true, laidKinds := [.data, .data, .data, .data, .handle, .pinned], laidTests := true, laidLooks := .later }
def RatioPrintsCardSaid : Prop := Claim7.holds Tryz.pinned (.plain (OpenSpec.ofChange ratioPrintsSpec)) ratioPrintsCard

/-- THE TIED CARD OF 'metewandlaw02.RatioConverges'. -/
def ratioConvergesCard : Claim7 := { stood := { row := ratioConvergesRow, standIns := [], harness := (true, "26278af25f1ca8c351057022f3c386ae6e07c6e13d83607bd2fc4edce185c415"), looks := true }, kinds := [], alts := [], goes := true, laidByText := true, laidKinds := [.data, .data, .data, .data, .handle, .pinned], laidTests := true, laidLooks := .later }
def RatioConvergesCardSaid : Prop := Claim7.holds Tryz.pinned (.plain (OpenSpec.ofChange ratioConvergesSpec)) ratioConvergesCard

/-- THE TIED CARD OF 'metewandlaw02.RatioNearest'. -/
def ratioNearestCard : Claim7 := { stood := { row := ratioNearestRow, standIns := [], harness := (true, "26278af25f1ca8c351057022f3c386ae6e07c6e13d83607bd2fc4edce185c415"), looks := true }, kinds := [], alts := [], goes := true, laidByText := true, laidKinds := [.data, .data, .data, .data, .handle, .pinned], laidTests := true, laidLooks := .later }
def RatioNearestCardSaid : Prop := Claim7.holds Tryz.pinned (.plain (OpenSpec.ofChange ratioNearestSpec)) ratioNearestCard

/-- THE TIED CARD OF 'metewandlaw02.RatioBetween'. -/
def ratioBetweenCard : Claim7 := { stood := { row := ratioBetweenRow, standIns := [], harness := (true, "26278af25f1ca8c351057022f3c386ae6e07c6e13d83607bd2fc4edce185c415"), looks := true }, kinds := [], alts := [], goes := true, laidByText := true, laidKinds := [.data, .data, .data, .data, .handle, .pinned], laidTests := true, laidLooks := .later }
def RatioBetweenCardSaid : Prop := Claim7.holds Tryz.pinned (.plain (OpenSpec.ofChange ratioBetweenSpec)) ratioBetweenCard

/-- THE TIED CARD OF 'metewandlaw02.RatioRounding'. -/
def ratioRoundingCard : Claim7 := { stood := { row := ratioRoundingRow, standIns := [], harness := (true, "26278af25f1ca8c351057022f3c386ae6e07c6e13d83607bd2fc4edce185c415"), looks := true }, kinds := [], alts := [], goes := true, laidByText := true, laidKinds := [.data, .data, .data, .data, .handle, .pinned], laidTests := true, laidLooks := .later }
def RatioRoundingCardSaid : Prop := Claim7.holds Tryz.pinned (.plain (OpenSpec.ofChange ratioRoundingSpec)) ratioRoundingCard

/-- THE TIED CARD OF 'metewandlaw01.WholeFactors'. -/
def wholeFactorsCard : Claim7 := { stood := { row := wholeFactorsRow, standIns := [], harness := (true, "26278af25f1ca8c351057022f3c386ae6e07c6e13d83607bd2fc4edce185c415"), looks := true }, kinds := [], alts := [], goes := true, laidByText := true, laidKinds := [.data, .data, .data, .handle, .sentinel, .sentinel], laidTests := true, laidLooks := .later }
def WholeFactorsCardSaid : Prop := Claim7.holds Tryz.pinned (.plain (OpenSpec.ofChange wholeFactorsSpec)) wholeFactorsCard

/-- THE TIED CARD OF 'metewandlaw01.WholeDivides'. -/
def wholeDividesCard : Claim7 := { stood := { row := wholeDividesRow, standIns := [], harness := (true, "26278af25f1ca8c351057022f3c386ae6e07c6e13d83607bd2fc4edce185c415"), looks := true }, kinds := [], alts := [], goes := true, laidByText := true, laidKinds := [.data, .data, .data, .handle, .sentinel, .sentinel], laidTests := true, laidLooks := .later }
def WholeDividesCardSaid : Prop := Claim7.holds Tryz.pinned (.plain (OpenSpec.ofChange wholeDividesSpec)) wholeDividesCard

/-- THE TIED CARD OF 'metewandlaw01.WholeGcds'. -/
def wholeGcdsCard : Claim7 := { stood := { row := wholeGcdsRow, standIns := [], harness := (true, "26278af25f1ca8c351057022f3c386ae6e07c6e13d83607bd2fc4edce185c415"), looks := true }, kinds := [], alts := [], goes := true, laidByText := true, laidKinds := [.data, .data, .data, .handle, .sentinel, .sentinel], laidTests := true, laidLooks := .later }
def WholeGcdsCardSaid : Prop := Claim7.holds Tryz.pinned (.plain (OpenSpec.ofChange wholeGcdsSpec)) wholeGcdsCard

/-- THE SECOND FORM's CARD OF 'metewandlaw02.RatioField'. -/
def ratioFieldUptoCard : Claim7 := { stood := { row := ratioFieldUptoRow, standIns := [], harness := (true, "26278af25f1ca8c351057022f3c386ae6e07c6e13d83607bd2fc4edce185c415"), looks := true }, kinds := [], alts := [], goes := true, laidByText := true, laidKinds := [.data, .data, .data, .data, .handle, .pinned], laidTests := true, laidLooks := .later }
def RatioFieldUptoCardSaid : Prop := Claim7.holds Tryz.pinned (.plain (OpenSpec.upto ratioFieldSpec)) ratioFieldUptoCard

/-- THE SECOND FORM's CARD OF 'metewandlaw02.RatioKnown'. -/
def ratioKnownUptoCard : Claim7 := { stood := { row := ratioKnownUptoRow, standIns := [], harness := (true, "26278af25f1ca8c351057022f3c386ae6e07c6e13d83607bd2fc4edce185c415"), looks := true }, kinds := [], alts := [], goes := true, laidByText := true, laidKinds := [.data, .data, .data, .data, .handle, .pinned], laidTests := true, laidLooks := .later }
def RatioKnownUptoCardSaid : Prop := Claim7.holds Tryz.pinned (.plain (OpenSpec.upto ratioKnownSpec)) ratioKnownUptoCard

/-- THE SECOND FORM's CARD OF 'metewandlaw02.RatioOrder'. -/
def ratioOrderUptoCard : Claim7 := { stood := { row := ratioOrderUptoRow, standIns := [], harness := (true, "26278af25f1ca8c351057022f3c386ae6e07c6e13d83607bd2fc4edce185c415"), looks := true }, kinds := [], alts := [], goes := true, laidByText := true, laidKinds := [.data, .data, .data, .data, .handle, .pinned], laidTests := true, laidLooks := .later }
def RatioOrderUptoCardSaid : Prop := Claim7.holds Tryz.pinned (.plain (OpenSpec.upto ratioOrderSpec)) ratioOrderUptoCard

/-- THE SECOND FORM's CARD OF 'metewandlaw02.RatioLowest'. -/
def ratioLowestUptoCard : Claim7 := { stood := { row := ratioLowestUptoRow, standIns := [], harness := (true, "26278af25f1ca8c351057022f3c386ae6e07c6e13d83607bd2fc4edce185c415"), looks := true }, kinds := [], alts := [], goes := true, laidByText := true, laidKinds := [.data, .data, .data, .data, .handle, .pinned], laidTests := true, laidLooks := .later }
def RatioLowestUptoCardSaid : Prop := Claim7.holds Tryz.pinned (.plain (OpenSpec.upto ratioLowestSpec)) ratioLowestUptoCard

/-- THE SECOND FORM's CARD OF 'metewandlaw02.RatioPrints'. -/
def ratioPrintsUptoCard : Claim7 := { stood := { row := ratioPrintsUptoRow, standIns := [], harness := (true, "26278af25f1ca8c351057022f3c386ae6e07c6e13d83607bd2fc4edce185c415"), looks := true }, kinds := [], alts := [], goes := true, laidByText := true, laidKinds := [.data, .data, .data, .data, .handle, .pinned], laidTests := true, laidLooks := .later }
def RatioPrintsUptoCardSaid : Prop := Claim7.holds Tryz.pinned (.plain (OpenSpec.upto ratioPrintsSpec)) ratioPrintsUptoCard

/-- THE SECOND FORM's CARD OF 'metewandlaw02.RatioConverges'. -/
def ratioConvergesUptoCard : Claim7 := { stood := { row := ratioConvergesUptoRow, standIns := [], harness := (true, "26278af25f1ca8c351057022f3c386ae6e07c6e13d83607bd2fc4edce185c415"), looks := true }, kinds := [], alts := [], goes := true, laidByText := true, laidKinds := [.data, .data, .data, .data, .handle, .pinned], laidTests := true, laidLooks := .later }
def RatioConvergesUptoCardSaid : Prop := Claim7.holds Tryz.pinned (.plain (OpenSpec.upto ratioConvergesSpec)) ratioConvergesUptoCard

/-- THE SECOND FORM's CARD OF 'metewandlaw02.RatioNearest'. -/
def ratioNearestUptoCard : Claim7 := { stood := { row := ratioNearestUptoRow, standIns := [], harness := (true, "26278af25f1ca8c351057022f3c386ae6e07c6e13d83607bd2fc4edce185c415"), looks := true }, kinds := [], alts := [], goes := true, laidByText := true, laidKinds := [.data, .data, .data, .data, .handle, .pinned], laidTests := true, laidLooks := .later }
def RatioNearestUptoCardSaid : Prop := Claim7.holds Tryz.pinned (.plain (OpenSpec.upto ratioNearestSpec)) ratioNearestUptoCard

/-- THE SECOND FORM's CARD OF 'metewandlaw02.RatioBetween'. -/
def ratioBetweenUptoCard : Claim7 := { stood := { row := ratioBetweenUptoRow, standIns := [], harness := (true, "26278af25f1ca8c351057022f3c386ae6e07c6e13d83607bd2fc4edce185c415"), looks := true }, kinds := [], alts := [], goes := true, laidByText := true, laidKinds := [.data, .data, .data, .data, .handle, .pinned], laidTests := true, laidLooks := .later }
def RatioBetweenUptoCardSaid : Prop := Claim7.holds Tryz.pinned (.plain (OpenSpec.upto ratioBetweenSpec)) ratioBetweenUptoCard

/-- THE SECOND FORM's CARD OF 'metewandlaw02.RatioRounding'. -/
def ratioRoundingUptoCard : Claim7 := { stood := { row := ratioRoundingUptoRow, standIns := [], harness := (true, "26278af25f1ca8c351057022f3c386ae6e07c6e13d83607bd2fc4edce185c415"), looks := true }, kinds := [], alts := [], goes := true, laidByText := true, laidKinds := [.data, .data, .data, .data, .handle, .pinned], laidTests := true, laidLooks := .later }
def RatioRoundingUptoCardSaid : Prop := Claim7.holds Tryz.pinned (.plain (OpenSpec.upto ratioRoundingSpec)) ratioRoundingUptoCard

/-- THE SECOND FORM's CARD OF 'metewandlaw01.WholeFactors'. -/
def wholeFactorsUptoCard : Claim7 := { stood := { row := wholeFactorsUptoRow, standIns := [], harness := (true, "26278af25f1ca8c351057022f3c386ae6e07c6e13d83607bd2fc4edce185c415"), looks := true }, kinds := [], alts := [], goes := true, laidByText := true, laidKinds := [.data, .data, .data, .handle, .sentinel, .sentinel], laidTests := true, laidLooks := .later }
def WholeFactorsUptoCardSaid : Prop := Claim7.holds Tryz.pinned (.plain (OpenSpec.upto wholeFactorsSpec)) wholeFactorsUptoCard

/-- THE SECOND FORM's CARD OF 'metewandlaw01.WholeDivides'. -/
def wholeDividesUptoCard : Claim7 := { stood := { row := wholeDividesUptoRow, standIns := [], harness := (true, "26278af25f1ca8c351057022f3c386ae6e07c6e13d83607bd2fc4edce185c415"), looks := true }, kinds := [], alts := [], goes := true, laidByText := true, laidKinds := [.data, .data, .data, .handle, .sentinel, .sentinel], laidTests := true, laidLooks := .later }
def WholeDividesUptoCardSaid : Prop := Claim7.holds Tryz.pinned (.plain (OpenSpec.upto wholeDividesSpec)) wholeDividesUptoCard

/-- THE SECOND FORM's CARD OF 'metewandlaw01.WholeGcds'. -/
def wholeGcdsUptoCard : Claim7 := { stood := { row := wholeGcdsUptoRow, standIns := [], harness := (true, "26278af25f1ca8c351057022f3c386ae6e07c6e13d83607bd2fc4edce185c415"), looks := true }, kinds := [], alts := [], goes := true, laidByText := true, laidKinds := [.data, .data, .data, .handle, .sentinel, .sentinel], laidTests := true, laidLooks := .later }
def WholeGcdsUptoCardSaid : Prop := Claim7.holds Tryz.pinned (.plain (OpenSpec.upto wholeGcdsSpec)) wholeGcdsUptoCard
end Rows
end Go.Proofs.YteggbenhffmijaaGreatDoor
