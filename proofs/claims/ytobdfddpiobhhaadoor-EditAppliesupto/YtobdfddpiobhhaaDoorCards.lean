/-
  DERIVED. GIVEN WITH THE SEED: THE CARDS: each row of YtobdfddpiobhhaaDoorRows.lean that lists a variable, with what it lists TIED to the program's text (the seventh form; the later family's looks); each row that meets fmt, with fmt's text TOLD by the authors' own Lean function (tested against real Go, not proved from fmt's source: count such statements apart). THE CARD IS WHAT COUNTS. Prove the row's statement (the work); the ties are given (YtobdfddpiobhhaaDoorTie.lean); close each card by the builder's one call (the guide's Derived/Test/ToyasCard.lean, 'card_holds'). Laid BY PROGRAM, IN A SANDBOX (cutbox-door.mjs). By AI agents, Wed Nov 11 2026. No macro, syntax, notation, axiom, sorry.
-/
import Derived.Test.YtobdfddpiobhhaaDoorRows
import GoSem.ClaimSeven
namespace Go.Proofs.YtobdfddpiobhhaaDoor
namespace Rows

/-- THE TIED CARD OF 'amanuensislaw1.EditApplies'. -/
def editAppliesCard : Claim7 := { stood := { row := editAppliesRow, standIns := [], harness := (true, "9f615a3e209010379301c90e5bbb5979ec66ef19234eaf9f3a735fcd786e209e"), looks := true }, kinds := [], alts := [], laidByText := true, laidKinds := [.handle], laidTests := true, laidLooks := .later }
def EditAppliesCardSaid : Prop := Claim7.holds Tryd.pinned (.plain (OpenSpec.ofChange editAppliesSpec)) editAppliesCard

/-- THE TIED CARD OF 'amanuensislaw1.EditComposes'. -/
def editComposesCard : Claim7 := { stood := { row := editComposesRow, standIns := [], harness := (true, "9f615a3e209010379301c90e5bbb5979ec66ef19234eaf9f3a735fcd786e209e"), looks := true }, kinds := [], alts := [], laidByText := true, laidKinds := [.handle], laidTests := true, laidLooks := .later }
def EditComposesCardSaid : Prop := Claim7.holds Tryd.pinned (.plain (OpenSpec.ofChange editComposesSpec)) editComposesCard

/-- THE TIED CARD OF 'amanuensislaw1.EditInverts'. -/
def editInvertsCard : Claim7 := { stood := { row := editInvertsRow, standIns := [], harness := (true, "9f615a3e209010379301c90e5bbb5979ec66ef19234eaf9f3a735fcd786e209e"), looks := true }, kinds := [], alts := [], laidByText := true, laidKinds := [.handle], laidTests := true, laidLooks := .later }
def EditInvertsCardSaid : Prop := Claim7.holds Tryd.pinned (.plain (OpenSpec.ofChange editInvertsSpec)) editInvertsCard

/-- THE TIED CARD OF 'amanuensislaw1.EditMerges'. -/
def editMergesCard : Claim7 := { stood := { row := editMergesRow, standIns := [], harness := (true, "9f615a3e209010379301c90e5bbb5979ec66ef19234eaf9f3a735fcd786e209e"), looks := true }, kinds := [], alts := [], laidByText := true, laidKinds := [.handle], laidTests := true, laidLooks := .later }
def EditMergesCardSaid : Prop := Claim7.holds Tryd.pinned (.plain (OpenSpec.ofChange editMergesSpec)) editMergesCard

/-- THE SECOND FORM's CARD OF 'amanuensislaw1.EditApplies'. -/
def editAppliesUptoCard : Claim7 := { stood := { row := editAppliesUptoRow, standIns := [], harness := (true, "9f615a3e209010379301c90e5bbb5979ec66ef19234eaf9f3a735fcd786e209e"), looks := true }, kinds := [], alts := [], laidByText := true, laidKinds := [.handle], laidTests := true, laidLooks := .later }
def EditAppliesUptoCardSaid : Prop := Claim7.holds Tryd.pinned (.plain (OpenSpec.upto editAppliesSpec)) editAppliesUptoCard

/-- THE SECOND FORM's CARD OF 'amanuensislaw1.EditComposes'. -/
def editComposesUptoCard : Claim7 := { stood := { row := editComposesUptoRow, standIns := [], harness := (true, "9f615a3e209010379301c90e5bbb5979ec66ef19234eaf9f3a735fcd786e209e"), looks := true }, kinds := [], alts := [], laidByText := true, laidKinds := [.handle], laidTests := true, laidLooks := .later }
def EditComposesUptoCardSaid : Prop := Claim7.holds Tryd.pinned (.plain (OpenSpec.upto editComposesSpec)) editComposesUptoCard

/-- THE SECOND FORM's CARD OF 'amanuensislaw1.EditInverts'. -/
def editInvertsUptoCard : Claim7 := { stood := { row := editInvertsUptoRow, standIns := [], harness := (true, "9f615a3e209010379301c90e5bbb5979ec66ef19234eaf9f3a735fcd786e209e"), looks := true }, kinds := [], alts := [], laidByText := true, laidKinds := [.handle], laidTests := true, laidLooks := .later }
def EditInvertsUptoCardSaid : Prop := Claim7.holds Tryd.pinned (.plain (OpenSpec.upto editInvertsSpec)) editInvertsUptoCard

/-- THE SECOND FORM's CARD OF 'amanuensislaw1.EditMerges'. -/
def editMergesUptoCard : Claim7 := { stood := { row := editMergesUptoRow, standIns := [], harness := (true, "9f615a3e209010379301c90e5bbb5979ec66ef19234eaf9f3a735fcd786e209e"), looks := true }, kinds := [], alts := [], laidByText := true, laidKinds := [.handle], laidTests := true, laidLooks := .later }
def EditMergesUptoCardSaid : Prop := Claim7.holds Tryd.pinned (.plain (OpenSpec.upto editMergesSpec)) editMergesUptoCard
end Rows
end Go.Proofs.YtobdfddpiobhhaaDoor
