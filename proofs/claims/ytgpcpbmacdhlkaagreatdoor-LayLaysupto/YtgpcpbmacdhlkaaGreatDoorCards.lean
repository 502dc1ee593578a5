/-
  DERIVED. GIVEN WITH THE SEED: THE CARDS: each row of YtgpcpbmacdhlkaaGreatDoorRows.lean that lists a variable, with what it lists TIED to the program's text (the seventh form; the later family's looks); each row that meets fmt, with fmt's text TOLD by the authors' own Lean function (tested against real Go, not proved from fmt's source: count such statements apart). THE CARD IS WHAT COUNTS. Prove the row's statement (the work); the ties are given (YtgpcpbmacdhlkaaGreatDoorTie.lean); close each card by the builder's one call (the guide's Derived/Test/ToyasCard.lean, 'card_holds'). Laid BY PROGRAM, IN A SANDBOX (cutbox-door.mjs). By AI agents, Wed Nov 11 2026. No macro, syntax, notation, axiom, sorry.
-/
import Derived.Test.YtgpcpbmacdhlkaaGreatDoorRows
import GoSem.ClaimSeven
namespace Go.Proofs.YtgpcpbmacdhlkaaGreatDoor
namespace Rows

/-- THE TIED CARD OF 'amanuensislaw6.LayLays'. -/
def layLaysCard : Claim7 := { stood := { row := layLaysRow, standIns := [], harness := (true, "815a5f4af1e77bd5fa08ab9cb3e2e2c71ccf17f92bdcfa7ba33ddc8ecf858c21"), looks := true }, kinds := [], alts := [], laidByText := true, laidKinds := [.data, .handle, .pinned], laidTests := true, laidLooks := .later }
def LayLaysCardSaid : Prop := Claim7.holds Tryz.pinned (.plain (OpenSpec.ofChange layLaysSpec)) layLaysCard

/-- THE TIED CARD OF 'amanuensislaw6.LayAgain'. -/
def layAgainCard : Claim7 := { stood := { row := layAgainRow, standIns := [], harness := (true, "815a5f4af1e77bd5fa08ab9cb3e2e2c71ccf17f92bdcfa7ba33ddc8ecf858c21"), looks := true }, kinds := [], alts := [], laidByText := true, laidKinds := [.data, .pinned], laidTests := true, laidLooks := .later }
def LayAgainCardSaid : Prop := Claim7.holds Tryz.pinned (.plain (OpenSpec.ofChange layAgainSpec)) layAgainCard

/-- THE TIED CARD OF 'amanuensislaw6.LayKeeps'. -/
def layKeepsCard : Claim7 := { stood := { row := layKeepsRow, standIns := [], harness := (true, "815a5f4af1e77bd5fa08ab9cb3e2e2c71ccf17f92bdcfa7ba33ddc8ecf858c21"), looks := true }, kinds := [], alts := [], laidByText := true, laidKinds := [.data, .pinned], laidTests := true, laidLooks := .later }
def LayKeepsCardSaid : Prop := Claim7.holds Tryz.pinned (.plain (OpenSpec.ofChange layKeepsSpec)) layKeepsCard

/-- THE SECOND FORM's CARD OF 'amanuensislaw6.LayLays'. -/
def layLaysUptoCard : Claim7 := { stood := { row := layLaysUptoRow, standIns := [], harness := (true, "815a5f4af1e77bd5fa08ab9cb3e2e2c71ccf17f92bdcfa7ba33ddc8ecf858c21"), looks := true }, kinds := [], alts := [], laidByText := true, laidKinds := [.data, .handle, .pinned], laidTests := true, laidLooks := .later }
def LayLaysUptoCardSaid : Prop := Claim7.holds Tryz.pinned (.plain (OpenSpec.upto layLaysSpec)) layLaysUptoCard

/-- THE SECOND FORM's CARD OF 'amanuensislaw6.LayAgain'. -/
def layAgainUptoCard : Claim7 := { stood := { row := layAgainUptoRow, standIns := [], harness := (true, "815a5f4af1e77bd5fa08ab9cb3e2e2c71ccf17f92bdcfa7ba33ddc8ecf858c21"), looks := true }, kinds := [], alts := [], laidByText := true, laidKinds := [.data, .pinned], laidTests := true, laidLooks := .later }
def LayAgainUptoCardSaid : Prop := Claim7.holds Tryz.pinned (.plain (OpenSpec.upto layAgainSpec)) layAgainUptoCard

/-- THE SECOND FORM's CARD OF 'amanuensislaw6.LayKeeps'. -/
def layKeepsUptoCard : Claim7 := { stood := { row := layKeepsUptoRow, standIns := [], harness := (true, "815a5f4af1e77bd5fa08ab9cb3e2e2c71ccf17f92bdcfa7ba33ddc8ecf858c21"), looks := true }, kinds := [], alts := [], laidByText := true, laidKinds := [.data, .pinned], laidTests := true, laidLooks := .later }
def LayKeepsUptoCardSaid : Prop := Claim7.holds Tryz.pinned (.plain (OpenSpec.upto layKeepsSpec)) layKeepsUptoCard
end Rows
end Go.Proofs.YtgpcpbmacdhlkaaGreatDoor
