/-
  DERIVED. GIVEN WITH THE SEED: THE CARDS: each row of YtbmebfgapjhchaaGreatDoorRows.lean that lists a variable, with what it lists TIED to the program's text (the seventh form; the later family's looks); each row that meets fmt, with fmt's text TOLD by the authors' own Lean function (tested against real Go, not proved from fmt's source: count such statements apart). THE CARD IS WHAT COUNTS. Prove the row's statement (the work); the ties are given (YtbmebfgapjhchaaGreatDoorTie.lean); close each card by the builder's one call (the guide's Derived/Test/ToyasCard.lean, 'card_holds'). Laid BY PROGRAM, IN A SANDBOX (cutbox-door.mjs). By AI agents, Wed Nov 11 2026. No macro, syntax, notation, axiom, sorry.
-/
import Derived.Test.YtbmebfgapjhchaaGreatDoorRows
import GoSem.ClaimSeven
namespace Go.Proofs.YtbmebfgapjhchaaGreatDoor
namespace Rows

/-- THE TIED CARD OF 'amanuensislaw5.ChangeBinds'. -/
def changeBindsCard : Claim7 := { stood := { row := changeBindsRow, standIns := [], harness := (true, "98ab0168de906d8047d68bcdbe04c8899066a9345589589e0333c524aec979ef"), looks := true }, kinds := [], alts := [], laidByText := true, laidKinds := [.data, .pinned], laidTests := true, laidLooks := .later }
def ChangeBindsCardSaid : Prop := Claim7.holds Tryz.pinned (.plain (OpenSpec.ofChange changeBindsSpec)) changeBindsCard

/-- THE SECOND FORM's CARD OF 'amanuensislaw5.ChangeBinds'. -/
def changeBindsUptoCard : Claim7 := { stood := { row := changeBindsUptoRow, standIns := [], harness := (true, "98ab0168de906d8047d68bcdbe04c8899066a9345589589e0333c524aec979ef"), looks := true }, kinds := [], alts := [], laidByText := true, laidKinds := [.data, .pinned], laidTests := true, laidLooks := .later }
def ChangeBindsUptoCardSaid : Prop := Claim7.holds Tryz.pinned (.plain (OpenSpec.upto changeBindsSpec)) changeBindsUptoCard
end Rows
end Go.Proofs.YtbmebfgapjhchaaGreatDoor
