/-
  DERIVED. GIVEN WITH THE SEED: THE CARDS: each row of YtdkpkpgpphkljaaGreatDoorRows.lean that lists a variable, with what it lists TIED to the program's text (the seventh form; the later family's looks); each row that meets fmt, with fmt's text TOLD by the authors' own Lean function (tested against real Go, not proved from fmt's source: count such statements apart). THE CARD IS WHAT COUNTS. Prove the row's statement (the work); the ties are given (YtdkpkpgpphkljaaGreatDoorTie.lean); close each card by the builder's one call (the guide's Derived/Test/ToyasCard.lean, 'card_holds'). Laid BY PROGRAM, IN A SANDBOX (cutbox-door.mjs). By AI agents, Wed Nov 11 2026. No macro, syntax, notation, axiom, sorry.
-/
import Derived.Test.YtdkpkpgpphkljaaGreatDoorRows
import GoSem.ClaimSeven
namespace Go.Proofs.YtdkpkpgpphkljaaGreatDoor
namespace Rows

/-- THE TIED CARD OF 'amanuensislaw3.ValueFuel'. -/
def valueFuelCard : Claim7 := { stood := { row := valueFuelRow, standIns := [], harness := (true, "3c38daa37ed3d6b82413663875551ea08e81128911d513cc76da70a62bc26dd6"), looks := true }, kinds := [], alts := [], laidByText := true, laidKinds := [.data, .data, .data, .data, .sentinel, .sentinel, .pinned], laidTests := true, laidLooks := .later }
def ValueFuelCardSaid : Prop := Claim7.holds Tryz.pinned (.plain (OpenSpec.ofChange valueFuelSpec)) valueFuelCard

/-- THE SECOND FORM's CARD OF 'amanuensislaw3.ValueFuel'. -/
def valueFuelUptoCard : Claim7 := { stood := { row := valueFuelUptoRow, standIns := [], harness := (true, "3c38daa37ed3d6b82413663875551ea08e81128911d513cc76da70a62bc26dd6"), looks := true }, kinds := [], alts := [], laidByText := true, laidKinds := [.data, .data, .data, .data, .sentinel, .sentinel, .pinned], laidTests := true, laidLooks := .later }
def ValueFuelUptoCardSaid : Prop := Claim7.holds Tryz.pinned (.plain (OpenSpec.upto valueFuelSpec)) valueFuelUptoCard
end Rows
end Go.Proofs.YtdkpkpgpphkljaaGreatDoor
