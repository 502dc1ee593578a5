/-
  DERIVED. GIVEN WITH THE SEED: THE CARDS: each row of YtdipmfdhnplpaaaGreatDoorRows.lean that lists a variable, with what it lists TIED to the program's text (the seventh form; the later family's looks); each row that meets fmt, with fmt's text TOLD by the authors' own Lean function (tested against real Go, not proved from fmt's source: count such statements apart). THE CARD IS WHAT COUNTS. Prove the row's statement (the work); the ties are given (YtdipmfdhnplpaaaGreatDoorTie.lean); close each card by the builder's one call (the guide's Derived/Test/ToyasCard.lean, 'card_holds'). Laid BY PROGRAM, IN A SANDBOX (cutbox-door.mjs). By AI agents, Wed Nov 11 2026. No macro, syntax, notation, axiom, sorry.
-/
import Derived.Test.YtdipmfdhnplpaaaGreatDoorRows
import GoSem.ClaimSeven
namespace Go.Proofs.YtdipmfdhnplpaaaGreatDoor
namespace Rows

/-- THE TIED CARD OF 'amanuensislaw3.ScopeResolves'. -/
def scopeResolvesCard : Claim7 := { stood := { row := scopeResolvesRow, standIns := [], harness := (true, "ccc81f868995fb06e1f4f704832d5a388037fd7b78b9b9de5cd7f480ac96db94"), looks := true }, kinds := [], alts := [], laidByText := true, laidKinds := [.data, .handle, .pinned], laidTests := true, laidLooks := .later }
def ScopeResolvesCardSaid : Prop := Claim7.holds Tryz.pinned (.plain (OpenSpec.ofChange scopeResolvesSpec)) scopeResolvesCard

/-- THE TIED CARD OF 'amanuensislaw3.ScopeStands'. -/
def scopeStandsCard : Claim7 := { stood := { row := scopeStandsRow, standIns := [], harness := (true, "ccc81f868995fb06e1f4f704832d5a388037fd7b78b9b9de5cd7f480ac96db94"), looks := true }, kinds := [], alts := [], laidByText := true, laidKinds := [.data, .pinned], laidTests := true, laidLooks := .later }
def ScopeStandsCardSaid : Prop := Claim7.holds Tryz.pinned (.plain (OpenSpec.ofChange scopeStandsSpec)) scopeStandsCard

/-- THE SECOND FORM's CARD OF 'amanuensislaw3.ScopeResolves'. -/
def scopeResolvesUptoCard : Claim7 := { stood := { row := scopeResolvesUptoRow, standIns := [], harness := (true, "ccc81f868995fb06e1f4f704832d5a388037fd7b78b9b9de5cd7f480ac96db94"), looks := true }, kinds := [], alts := [], laidByText := true, laidKinds := [.data, .handle, .pinned], laidTests := true, laidLooks := .later }
def ScopeResolvesUptoCardSaid : Prop := Claim7.holds Tryz.pinned (.plain (OpenSpec.upto scopeResolvesSpec)) scopeResolvesUptoCard

/-- THE SECOND FORM's CARD OF 'amanuensislaw3.ScopeStands'. -/
def scopeStandsUptoCard : Claim7 := { stood := { row := scopeStandsUptoRow, standIns := [], harness := (true, "ccc81f868995fb06e1f4f704832d5a388037fd7b78b9b9de5cd7f480ac96db94"), looks := true }, kinds := [], alts := [], laidByText := true, laidKinds := [.data, .pinned], laidTests := true, laidLooks := .later }
def ScopeStandsUptoCardSaid : Prop := Claim7.holds Tryz.pinned (.plain (OpenSpec.upto scopeStandsSpec)) scopeStandsUptoCard
end Rows
end Go.Proofs.YtdipmfdhnplpaaaGreatDoor
