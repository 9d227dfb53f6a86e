/-
  DERIVED. GIVEN WITH THE SEED: THE CARDS: each row of YteaeloeebfdodaaGreatDoorRows.lean that lists a variable, with what it lists TIED to the program's text (the seventh form; the later family's looks); each row that meets fmt, with fmt's text TOLD by the authors' own Lean function (tested against real Go, not proved from fmt's source: count such statements apart). THE CARD IS WHAT COUNTS. Prove the row's statement (the work); the ties are given (YteaeloeebfdodaaGreatDoorTie.lean); close each card by the builder's one call (the guide's Derived/Test/ToyasCard.lean, 'card_holds'). Laid BY PROGRAM, IN A SANDBOX (cutbox-door.mjs). By AI agents, Wed Nov 11 2026. No macro, syntax, notation, axiom, sorry.
-/
import Derived.Test.YteaeloeebfdodaaGreatDoorRows
import GoSem.ClaimSeven
namespace Go.Proofs.YteaeloeebfdodaaGreatDoor
namespace Rows

/-- THE TIED CARD OF 'metewandlaw01.WholeOrder'. -/
def wholeOrderCard : Claim7 := { stood := { row := wholeOrderRow, standIns := [], harness := (true, "d2e0e1776ba4e3d9448add20856a3950281a10c7a5e6ba4db0e927d3eb2df3b5"), looks := true }, kinds := [], alts := [], goes := true, laidByText := true, laidKinds := [.data, .data, .data, .handle, .sentinel, .sentinel], laidTests := true, laidLooks := .later }
def WholeOrderCardSaid : Prop := Claim7.holds Tryz.pinned (.plain (OpenSpec.ofChange wholeOrderSpec)) wholeOrderCard

/-- THE TIED CARD OF 'metewandlaw01.WholePower'. -/
def wholePowerCard : Claim7 := { stood := { row := wholePowerRow, standIns := [], harness := (true, "d2e0e1776ba4e3d9448add20856a3950281a10c7a5e6ba4db0e927d3eb2df3b5"), looks := true }, kinds := [], alts := [], goes := true, laidByText := true, laidKinds := [.data, .data, .data, .handle, .sentinel, .sentinel], laidTests := true, laidLooks := .later }
def WholePowerCardSaid : Prop := Claim7.holds Tryz.pinned (.plain (OpenSpec.ofChange wholePowerSpec)) wholePowerCard

/-- THE TIED CARD OF 'metewandlaw01.WholeKnown'. -/
def wholeKnownCard : Claim7 := { stood := { row := wholeKnownRow, standIns := [], harness := (true, "d2e0e1776ba4e3d9448add20856a3950281a10c7a5e6ba4db0e927d3eb2df3b5"), looks := true }, kinds := [], alts := [], goes := true, laidByText := true, laidKinds := [.data, .data, .data, .handle, .sentinel, .sentinel], laidTests := true, laidLooks := .later }
def WholeKnownCardSaid : Prop := Claim7.holds Tryz.pinned (.plain (OpenSpec.ofChange wholeKnownSpec)) wholeKnownCard

/-- THE TIED CARD OF 'metewandlaw01.WholeDivision'. -/
def wholeDivisionCard : Claim7 := { stood := { row := wholeDivisionRow, standIns := [], harness := (true, "d2e0e1776ba4e3d9448add20856a3950281a10c7a5e6ba4db0e927d3eb2df3b5"), looks := true }, kinds := [], alts := [], goes := true, laidByText := true, laidKinds := [.data, .data, .data, .handle, .sentinel, .sentinel], laidTests := true, laidLooks := .later }
def WholeDivisionCardSaid : Prop := Claim7.holds Tryz.pinned (.plain (OpenSpec.ofChange wholeDivisionSpec)) wholeDivisionCard

/-- THE TIED CARD OF 'metewandlaw01.WholeRooted'. -/
def wholeRootedCard : Claim7 := { stood := { row := wholeRootedRow, standIns := [], harness := (true, "d2e0e1776ba4e3d9448add20856a3950281a10c7a5e6ba4db0e927d3eb2df3b5"), looks := true }, kinds := [], alts := [], goes := true, laidByText := true, laidKinds := [.data, .data, .data, .handle, .sentinel, .sentinel], laidTests := true, laidLooks := .later }
def WholeRootedCardSaid : Prop := Claim7.holds Tryz.pinned (.plain (OpenSpec.ofChange wholeRootedSpec)) wholeRootedCard

/-- THE TIED CARD OF 'metewandlaw01.WholeDivisor'. -/
def wholeDivisorCard : Claim7 := { stood := { row := wholeDivisorRow, standIns := [], harness := (true, "d2e0e1776ba4e3d9448add20856a3950281a10c7a5e6ba4db0e927d3eb2df3b5"), looks := true }, kinds := [], alts := [], goes := true, laidByText := true, laidKinds := [.data, .data, .data, .handle, .sentinel, .sentinel], laidTests := true, laidLooks := .later }
def WholeDivisorCardSaid : Prop := Claim7.holds Tryz.pinned (.plain (OpenSpec.ofChange wholeDivisorSpec)) wholeDivisorCard

/-- THE TIED CARD OF 'metewandlaw01.WholeBases'. -/
def wholeBasesCard : Claim7 := { stood := { row := wholeBasesRow, standIns := [], harness := (true, "d2e0e1776ba4e3d9448add20856a3950281a10c7a5e6ba4db0e927d3eb2df3b5"), looks := true }, kinds := [], alts := [], goes := true, laidByText := true, laidKinds := [.data, .data, .data, .handle, .sentinel, .sentinel], laidTests := true, laidLooks := .later }
def WholeBasesCardSaid : Prop := Claim7.holds Tryz.pinned (.plain (OpenSpec.ofChange wholeBasesSpec)) wholeBasesCard

/-- THE TIED CARD OF 'metewandlaw02.RatioField'. -/
def ratioFieldCard : Claim7 := { stood := { row := ratioFieldRow, standIns := [], harness := (true, "d2e0e1776ba4e3d9448add20856a3950281a10c7a5e6ba4db0e927d3eb2df3b5"), looks := true }, kinds := [], alts := [], goes := true, laidByText := true, laidKinds := [.data, .data, .data, .data, .handle, .pinned], laidTests := true, laidLooks := .later }
def RatioFieldCardSaid : Prop := Claim7.holds Tryz.pinned (.plain (OpenSpec.ofChange ratioFieldSpec)) ratioFieldCard

/-- THE TIED CARD OF 'metewandlaw02.RatioOrder'. -/
def ratioOrderCard : Claim7 := { stood := { row := ratioOrderRow, standIns := [], harness := (true, "d2e0e1776ba4e3d9448add20856a3950281a10c7a5e6ba4db0e927d3eb2df3b5"), looks := true }, kinds := [], alts := [], goes := true, laidByText := true, laidKinds := [.data, .data, .data, .data, .handle, .pinned], laidTests := true, laidLooks := .later }
def RatioOrderCardSaid : Prop := Claim7.holds Tryz.pinned (.plain (OpenSpec.ofChange ratioOrderSpec)) ratioOrderCard

/-- THE TIED CARD OF 'metewandlaw02.RatioLowest'. -/
def ratioLowestCard : Claim7 := { stood := { row := ratioLowestRow, standIns := [], harness := (true, "d2e0e1776ba4e3d9448add20856a3950281a10c7a5e6ba4db0e927d3eb2df3b5"), looks := true }, kinds := [], alts := [], goes := true, laidByText := true, laidKinds := [.data, .data, .data, .data, .handle, .pinned], laidTests := true, laidLooks := .later }
def RatioLowestCardSaid : Prop := Claim7.holds Tryz.pinned (.plain (OpenSpec.ofChange ratioLowestSpec)) ratioLowestCard

/-- THE TIED CARD OF 'metewandlaw02.RatioKnown'. -/
def ratioKnownCard : Claim7 := { stood := { row := ratioKnownRow, standIns := [], harness := (true, "d2e0e1776ba4e3d9448add20856a3950281a10c7a5e6ba4db0e927d3eb2df3b5"), looks := true }, kinds := [], alts := [], goes := true, laidByText := true, laidKinds := [.data, .data, .data, .data, .handle, .pinned], laidTests := true, laidLooks := .later }
def RatioKnownCardSaid : Prop := Claim7.holds Tryz.pinned (.plain (OpenSpec.ofChange ratioKnownSpec)) ratioKnownCard

/-- THE TIED CARD OF 'metewandlaw02.RatioPrints'. -/
def ratioPrintsCard : Claim7 := { stood := { row := ratioPrintsRow, standIns := [], harness := (true, "d2e0e1776ba4e3d9448add20856a3950281a10c7a5e6ba4db0e927d3eb2df3b5"), looks := true }, kinds := [], alts := [], goes := true, laidByText := true, laidKinds := [.data, .data, .data, .data, .handle, .pinned], laidTests := true, laidLooks := .later }
def RatioPrintsCardSaid : Prop := Claim7.holds Tryz.pinned (.plain (OpenSpec.ofChange ratioPrintsSpec)) ratioPrintsCard

/-- THE SECOND FORM's CARD OF 'metewandlaw01.WholeOrder'. -/
def wholeOrderUptoCard : Claim7 := { stood := { row := wholeOrderUptoRow, standIns := [], harness := (true, "d2e0e1776ba4e3d9448add20856a3950281a10c7a5e6ba4db0e927d3eb2df3b5"), looks := true }, kinds := [], alts := [], goes := true, laidByText := true, laidKinds := [.data, .data, .data, .handle, .sentinel, .sentinel], laidTests := true, laidLooks := .later }
def WholeOrderUptoCardSaid : Prop := Claim7.holds Tryz.pinned (.plain (OpenSpec.upto wholeOrderSpec)) wholeOrderUptoCard

/-- THE SECOND FORM's CARD OF 'metewandlaw01.WholePower'. -/
def wholePowerUptoCard : Claim7 := { stood := { row := wholePowerUptoRow, standIns := [], harness := (true, "d2e0e1776ba4e3d9448add20856a3950281a10c7a5e6ba4db0e927d3eb2df3b5"), looks := true }, kinds := [], alts := [], goes := true, laidByText := true, laidKinds := [.data, .data, .data, .handle, .sentinel, .sentinel], laidTests := true, laidLooks := .later }
def WholePowerUptoCardSaid : Prop := Claim7.holds Tryz.pinned (.plain (OpenSpec.upto wholePowerSpec)) wholePowerUptoCard

/-- THE SECOND FORM's CARD OF 'metewandlaw01.WholeKnown'. -/
def wholeKnownUptoCard : Claim7 := { stood := { row := wholeKnownUptoRow, standIns := [], harness := (true, "d2e0e1776ba4e3d9448add20856a3950281a10c7a5e6ba4db0e927d3eb2df3b5"), looks := true }, kinds := [], alts := [], goes := true, laidByText := true, laidKinds := [.data, .data, .data, .handle, .sentinel, .sentinel], laidTests := true, laidLooks := .later }
def WholeKnownUptoCardSaid : Prop := Claim7.holds Tryz.pinned (.plain (OpenSpec.upto wholeKnownSpec)) wholeKnownUptoCard

/-- THE SECOND FORM's CARD OF 'metewandlaw01.WholeDivision'. -/
def wholeDivisionUptoCard : Claim7 := { stood := { row := wholeDivisionUptoRow, standIns := [], harness := (true, "d2e0e1776ba4e3d9448add20856a3950281a10c7a5e6ba4db0e927d3eb2df3b5"), looks := true }, kinds := [], alts := [], goes := true, laidByText := true, laidKinds := [.data, .data, .data, .handle, .sentinel, .sentinel], laidTests := true, laidLooks := .later }
def WholeDivisionUptoCardSaid : Prop := Claim7.holds Tryz.pinned (.plain (OpenSpec.upto wholeDivisionSpec)) wholeDivisionUptoCard

/-- THE SECOND FORM's CARD OF 'metewandlaw01.WholeRooted'. -/
def wholeRootedUptoCard : Claim7 := { stood := { row := wholeRootedUptoRow, standIns := [], harness := (true, "d2e0e1776ba4e3d9448add20856a3950281a10c7a5e6ba4db0e927d3eb2df3b5"), looks := true }, kinds := [], alts := [], goes := true, laidByText := true, laidKinds := [.data, .data, .data, .handle, .sentinel, .sentinel], laidTests := true, laidLooks := .later }
def WholeRootedUptoCardSaid : Prop := Claim7.holds Tryz.pinned (.plain (OpenSpec.upto wholeRootedSpec)) wholeRootedUptoCard

/-- THE SECOND FORM's CARD OF 'metewandlaw01.WholeDivisor'. -/
def wholeDivisorUptoCard : Claim7 := { stood := { row := wholeDivisorUptoRow, standIns := [], harness := (true, "d2e0e1776ba4e3d9448add20856a3950281a10c7a5e6ba4db0e927d3eb2df3b5"), looks := true }, kinds := [], alts := [], goes := true, laidByText := true, laidKinds := [.data, .data, .data, .handle, .sentinel, .sentinel], laidTests := true, laidLooks := .later }
def WholeDivisorUptoCardSaid : Prop := Claim7.holds Tryz.pinned (.plain (OpenSpec.upto wholeDivisorSpec)) wholeDivisorUptoCard

/-- THE SECOND FORM's CARD OF 'metewandlaw01.WholeBases'. -/
def wholeBasesUptoCard : Claim7 := { stood := { row := wholeBasesUptoRow, standIns := [], harness := (true, "d2e0e1776ba4e3d9448add20856a3950281a10c7a5e6ba4db0e927d3eb2df3b5"), looks := true }, kinds := [], alts := [], goes := true, laidByText := true, laidKinds := [.data, .data, .data, .handle, .sentinel, .sentinel], laidTests := true, laidLooks := .later }
def WholeBasesUptoCardSaid : Prop := Claim7.holds Tryz.pinned (.plain (OpenSpec.upto wholeBasesSpec)) wholeBasesUptoCard

/-- THE SECOND FORM's CARD OF 'metewandlaw02.RatioField'. -/
def ratioFieldUptoCard : Claim7 := { stood := { row := ratioFieldUptoRow, standIns := [], harness := (true, "d2e0e1776ba4e3d9448add20856a3950281a10c7a5e6ba4db0e927d3eb2df3b5"), looks := true }, kinds := [], alts := [], goes := true, laidByText := true, laidKinds := [.data, .data, .data, .data, .handle, .pinned], laidTests := true, laidLooks := .later }
def RatioFieldUptoCardSaid : Prop := Claim7.holds Tryz.pinned (.plain (OpenSpec.upto ratioFieldSpec)) ratioFieldUptoCard

/-- THE SECOND FORM's CARD OF 'metewandlaw02.RatioOrder'. -/
def ratioOrderUptoCard : Claim7 := { stood := { row := ratioOrderUptoRow, standIns := [], harness := (true, "d2e0e1776ba4e3d9448add20856a3950281a10c7a5e6ba4db0e927d3eb2df3b5"), looks := true }, kinds := [], alts := [], goes := true, laidByText := true, laidKinds := [.data, .data, .data, .data, .handle, .pinned], laidTests := true, laidLooks := .later }
def RatioOrderUptoCardSaid : Prop := Claim7.holds Tryz.pinned (.plain (OpenSpec.upto ratioOrderSpec)) ratioOrderUptoCard

/-- THE SECOND FORM's CARD OF 'metewandlaw02.RatioLowest'. -/
def ratioLowestUptoCard : Claim7 := { stood := { row := ratioLowestUptoRow, standIns := [], harness := (true, "d2e0e1776ba4e3d9448add20856a3950281a10c7a5e6ba4db0e927d3eb2df3b5"), looks := true }, kinds := [], alts := [], goes := true, laidByText := true, laidKinds := [.data, .data, .data, .data, .handle, .pinned], laidTests := true, laidLooks := .later }
def RatioLowestUptoCardSaid : Prop := Claim7.holds Tryz.pinned (.plain (OpenSpec.upto ratioLowestSpec)) ratioLowestUptoCard

/-- THE SECOND FORM's CARD OF 'metewandlaw02.RatioKnown'. -/
def ratioKnownUptoCard : Claim7 := { stood := { row := ratioKnownUptoRow, standIns := [], harness := (true, "d2e0e1776ba4e3d9448add20856a3950281a10c7a5e6ba4db0e927d3eb2df3b5"), looks := true }, kinds := [], alts := [], goes := true, laidByText := true, laidKinds := [.data, .data, .data, .data, .handle, .pinned], laidTests := true, laidLooks := .later }
def RatioKnownUptoCardSaid : Prop := Claim7.holds Tryz.pinned (.plain (OpenSpec.upto ratioKnownSpec)) ratioKnownUptoCard

/-- THE SECOND FORM's CARD OF 'metewandlaw02.RatioPrints'. -/
def ratioPrintsUptoCard : Claim7 := { stood := { row := ratioPrintsUptoRow, standIns := [], harness := (true, "d2e0e1776ba4e3d9448add20856a3950281a10c7a5e6ba4db0e927d3eb2df3b5"), looks := true }, kinds := [], alts := [], goes := true, laidByText := true, laidKinds := [.data, .data, .data, .data, .handle, .pinned], laidTests := true, laidLooks := .later }
def RatioPrintsUptoCardSaid : Prop := Claim7.holds Tryz.pinned (.plain (OpenSpec.upto ratioPrintsSpec)) ratioPrintsUptoCard
end Rows
end Go.Proofs.YteaeloeebfdodaaGreatDoor
