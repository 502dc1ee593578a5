/-
  DERIVED. GIVEN WITH THE SEED: THE CARDS: each row of YtijikgghakhhaaaDoorRows.lean that lists a variable, with what it lists TIED to the program's text (the seventh form; the later family's looks); each row that meets fmt, with fmt's text TOLD by the authors' own Lean function (tested against real Go, not proved from fmt's source: count such statements apart). THE CARD IS WHAT COUNTS. Prove the row's statement (the work); the ties are given (YtijikgghakhhaaaDoorTie.lean); close each card by the builder's one call (the guide's Derived/Test/ToyasCard.lean, 'card_holds'). Laid BY PROGRAM, IN A SANDBOX (cutbox-door.mjs). By AI agents, Wed Nov 11 2026. No macro, syntax, notation, axiom, sorry.
-/
import Derived.Test.YtijikgghakhhaaaDoorRows
import GoSem.ClaimSeven
namespace Go.Proofs.YtijikgghakhhaaaDoor
namespace Rows

/-- THE TIED CARD OF 'amanuensislaw1.RopeHolds'. -/
def ropeHoldsCard : Claim7 := { stood := { row := ropeHoldsRow, standIns := [], harness := (true, "5d3aeea40bd608acf1602e89aff2c418a4f931b7bf9757f9d93da4d96e9a879d"), looks := true }, kinds := [], alts := [], laidByText := true, laidKinds := [.data, .handle, .pinned], laidTests := true, laidLooks := .later }
def RopeHoldsCardSaid : Prop := Claim7.holds Tryd.pinned (.plain (OpenSpec.ofChange ropeHoldsSpec)) ropeHoldsCard

/-- THE TIED CARD OF 'amanuensislaw1.RopePlaces'. -/
def ropePlacesCard : Claim7 := { stood := { row := ropePlacesRow, standIns := [], harness := (true, "5d3aeea40bd608acf1602e89aff2c418a4f931b7bf9757f9d93da4d96e9a879d"), looks := true }, kinds := [], alts := [], laidByText := true, laidKinds := [.data, .pinned], laidTests := true, laidLooks := .later }
def RopePlacesCardSaid : Prop := Claim7.holds Tryd.pinned (.plain (OpenSpec.ofChange ropePlacesSpec)) ropePlacesCard

/-- THE TIED CARD OF 'amanuensislaw1.RopeBack'. -/
def ropeBackCard : Claim7 := { stood := { row := ropeBackRow, standIns := [], harness := (true, "5d3aeea40bd608acf1602e89aff2c418a4f931b7bf9757f9d93da4d96e9a879d"), looks := true }, kinds := [], alts := [], laidByText := true, laidKinds := [.data, .pinned], laidTests := true, laidLooks := .later }
def RopeBackCardSaid : Prop := Claim7.holds Tryd.pinned (.plain (OpenSpec.ofChange ropeBackSpec)) ropeBackCard

/-- THE SECOND FORM's CARD OF 'amanuensislaw1.RopeHolds'. -/
def ropeHoldsUptoCard : Claim7 := { stood := { row := ropeHoldsUptoRow, standIns := [], harness := (true, "5d3aeea40bd608acf1602e89aff2c418a4f931b7bf9757f9d93da4d96e9a879d"), looks := true }, kinds := [], alts := [], laidByText := true, laidKinds := [.data, .handle, .pinned], laidTests := true, laidLooks := .later }
def RopeHoldsUptoCardSaid : Prop := Claim7.holds Tryd.pinned (.plain (OpenSpec.upto ropeHoldsSpec)) ropeHoldsUptoCard

/-- THE SECOND FORM's CARD OF 'amanuensislaw1.RopePlaces'. -/
def ropePlacesUptoCard : Claim7 := { stood := { row := ropePlacesUptoRow, standIns := [], harness := (true, "5d3aeea40bd608acf1602e89aff2c418a4f931b7bf9757f9d93da4d96e9a879d"), looks := true }, kinds := [], alts := [], laidByText := true, laidKinds := [.data, .pinned], laidTests := true, laidLooks := .later }
def RopePlacesUptoCardSaid : Prop := Claim7.holds Tryd.pinned (.plain (OpenSpec.upto ropePlacesSpec)) ropePlacesUptoCard

/-- THE SECOND FORM's CARD OF 'amanuensislaw1.RopeBack'. -/
def ropeBackUptoCard : Claim7 := { stood := { row := ropeBackUptoRow, standIns := [], harness := (true, "5d3aeea40bd608acf1602e89aff2c418a4f931b7bf9757f9d93da4d96e9a879d"), looks := true }, kinds := [], alts := [], laidByText := true, laidKinds := [.data, .pinned], laidTests := true, laidLooks := .later }
def RopeBackUptoCardSaid : Prop := Claim7.holds Tryd.pinned (.plain (OpenSpec.upto ropeBackSpec)) ropeBackUptoCard
end Rows
end Go.Proofs.YtijikgghakhhaaaDoor
