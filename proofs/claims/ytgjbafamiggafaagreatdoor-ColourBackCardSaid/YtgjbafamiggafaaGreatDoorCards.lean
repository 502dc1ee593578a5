/-
  DERIVED. GIVEN WITH THE SEED: THE CARDS: each row of YtgjbafamiggafaaGreatDoorRows.lean that lists a variable, with what it lists TIED to the program's text (the seventh form; the later family's looks); each row that meets fmt, with fmt's text TOLD by the authors' own Lean function (tested against real Go, not proved from fmt's source: count such statements apart). THE CARD IS WHAT COUNTS. Prove the row's statement (the work); the ties are given (YtgjbafamiggafaaGreatDoorTie.lean); close each card by the builder's one call (the guide's Derived/Test/ToyasCard.lean, 'card_holds'). Laid BY PROGRAM, IN A SANDBOX (cutbox-door.mjs). By AI agents, Wed Nov 11 2026. No macro, syntax, notation, axiom, sorry.
-/
import Derived.Test.YtgjbafamiggafaaGreatDoorRows
import GoSem.ClaimSeven
namespace Go.Proofs.YtgjbafamiggafaaGreatDoor
namespace Rows

/-- THE TIED CARD OF 'amanuensislaw3.ScopeStands'. -/
def scopeStandsCard : Claim7 := { stood := { row := scopeStandsRow, standIns := [], harness := (true, "3815ed2b0cb098a9bd59dcb465224438037ba242ca8c4dfc17ba809ee36ae825"), looks := true }, kinds := [], alts := [], laidByText := true, laidKinds := [.data, .pinned], laidTests := true, laidLooks := .later }
def ScopeStandsCardSaid : Prop := Claim7.holds Tryz.pinned (.plain (OpenSpec.ofChange scopeStandsSpec)) scopeStandsCard

/-- THE TIED CARD OF 'amanuensislaw6.ColourBack'. -/
def colourBackCard : Claim7 := { stood := { row := colourBackRow, standIns := [], harness := (true, "3815ed2b0cb098a9bd59dcb465224438037ba242ca8c4dfc17ba809ee36ae825"), looks := true }, kinds := [], alts := [], laidByText := true, laidKinds := [.data, .data, .data, .pinned], laidTests := true, laidLooks := .later }
def ColourBackCardSaid : Prop := Claim7.holds Tryz.pinned (.plain (OpenSpec.ofChange colourBackSpec)) colourBackCard

/-- THE SECOND FORM's CARD OF 'amanuensislaw3.ScopeStands'. -/
def scopeStandsUptoCard : Claim7 := { stood := { row := scopeStandsUptoRow, standIns := [], harness := (true, "3815ed2b0cb098a9bd59dcb465224438037ba242ca8c4dfc17ba809ee36ae825"), looks := true }, kinds := [], alts := [], laidByText := true, laidKinds := [.data, .pinned], laidTests := true, laidLooks := .later }
def ScopeStandsUptoCardSaid : Prop := Claim7.holds Tryz.pinned (.plain (OpenSpec.upto scopeStandsSpec)) scopeStandsUptoCard

/-- THE SECOND FORM's CARD OF 'amanuensislaw6.ColourBack'. -/
def colourBackUptoCard : Claim7 := { stood := { row := colourBackUptoRow, standIns := [], harness := (true, "3815ed2b0cb098a9bd59dcb465224438037ba242ca8c4dfc17ba809ee36ae825"), looks := true }, kinds := [], alts := [], laidByText := true, laidKinds := [.data, .data, .data, .pinned], laidTests := true, laidLooks := .later }
def ColourBackUptoCardSaid : Prop := Claim7.holds Tryz.pinned (.plain (OpenSpec.upto colourBackSpec)) colourBackUptoCard
end Rows
end Go.Proofs.YtgjbafamiggafaaGreatDoor
