/-
  DERIVED. GIVEN WITH THE SEED: THE CARDS: each row of YtkponlbpgmnpgaaGreatDoorRows.lean that lists a variable, with what it lists TIED to the program's text (the seventh form; the later family's looks); each row that meets fmt, with fmt's text TOLD by the authors' own Lean function (tested against real Go, not proved from fmt's source: count such statements apart). THE CARD IS WHAT COUNTS. Prove the row's statement (the work); the ties are given (YtkponlbpgmnpgaaGreatDoorTie.lean); close each card by the builder's one call (the guide's Derived/Test/ToyasCard.lean, 'card_holds'). Laid BY PROGRAM, IN A SANDBOX (cutbox-door.mjs). By AI agents, Wed Nov 11 2026. No macro, syntax, notation, axiom, sorry.
-/
import Derived.Test.YtkponlbpgmnpgaaGreatDoorRows
import GoSem.ClaimSeven
namespace Go.Proofs.YtkponlbpgmnpgaaGreatDoor
namespace Rows

/-- THE TIED CARD OF 'privhouselaw09.LossCalls'. -/
def lossCallsCard : Claim7 := { stood := { row := lossCallsRow, standIns := [], harness := (true, "6dfa5268e05f8b3727006f59ffbba5b97d8dff33fb9fbadf899d305d5220ee0e"), looks := true }, kinds := [], alts := [], laidByText := true, laidKinds := [.data, .data, .data], laidTests := true, laidLooks := .later }
def LossCallsCardSaid : Prop := Claim7.holds Tryz.pinned (.plain (OpenSpec.ofChange lossCallsSpec)) lossCallsCard

/-- THE TIED CARD OF 'privhouselaw09.LossRests'. -/
def lossRestsCard : Claim7 := { stood := { row := lossRestsRow, standIns := [], harness := (true, "6dfa5268e05f8b3727006f59ffbba5b97d8dff33fb9fbadf899d305d5220ee0e"), looks := true }, kinds := [], alts := [], laidByText := true, laidKinds := [.data, .data, .data], laidTests := true, laidLooks := .later }
def LossRestsCardSaid : Prop := Claim7.holds Tryz.pinned (.plain (OpenSpec.ofChange lossRestsSpec)) lossRestsCard

/-- THE TIED CARD OF 'privhouselaw09.LossAdds'. -/
def lossAddsCard : Claim7 := { stood := { row := lossAddsRow, standIns := [], harness := (true, "6dfa5268e05f8b3727006f59ffbba5b97d8dff33fb9fbadf899d305d5220ee0e"), looks := true }, kinds := [], alts := [], laidByText := true, laidKinds := [.data, .data, .data], laidTests := true, laidLooks := .later }
def LossAddsCardSaid : Prop := Claim7.holds Tryz.pinned (.plain (OpenSpec.ofChange lossAddsSpec)) lossAddsCard

/-- THE TIED CARD OF 'privhouselaw09.LossGroups'. -/
def lossGroupsCard : Claim7 := { stood := { row := lossGroupsRow, standIns := [], harness := (true, "6dfa5268e05f8b3727006f59ffbba5b97d8dff33fb9fbadf899d305d5220ee0e"), looks := true }, kinds := [], alts := [], laidByText := true, laidKinds := [.data, .data, .data], laidTests := true, laidLooks := .later }
def LossGroupsCardSaid : Prop := Claim7.holds Tryz.pinned (.plain (OpenSpec.ofChange lossGroupsSpec)) lossGroupsCard

/-- THE TIED CARD OF 'privhouselaw09.LossLates'. -/
def lossLatesCard : Claim7 := { stood := { row := lossLatesRow, standIns := [], harness := (true, "6dfa5268e05f8b3727006f59ffbba5b97d8dff33fb9fbadf899d305d5220ee0e"), looks := true }, kinds := [], alts := [], laidByText := true, laidKinds := [.data, .data, .data], laidTests := true, laidLooks := .later }
def LossLatesCardSaid : Prop := Claim7.holds Tryz.pinned (.plain (OpenSpec.ofChange lossLatesSpec)) lossLatesCard

/-- THE TIED CARD OF 'privhouselaw10.MomentNames'. -/
def momentNamesCard : Claim7 := { stood := { row := momentNamesRow, standIns := [], harness := (true, "6dfa5268e05f8b3727006f59ffbba5b97d8dff33fb9fbadf899d305d5220ee0e"), looks := true }, kinds := [], alts := [], laidByText := true, laidKinds := [.data, .data, .data], laidTests := true, laidLooks := .later }
def MomentNamesCardSaid : Prop := Claim7.holds Tryz.pinned (.plain (OpenSpec.ofChange momentNamesSpec)) momentNamesCard

/-- THE TIED CARD OF 'privhouselaw10.MomentCalls'. -/
def momentCallsCard : Claim7 := { stood := { row := momentCallsRow, standIns := [], harness := (true, "6dfa5268e05f8b3727006f59ffbba5b97d8dff33fb9fbadf899d305d5220ee0e"), looks := true }, kinds := [], alts := [], laidByText := true, laidKinds := [.data, .data, .data], laidTests := true, laidLooks := .later }
def MomentCallsCardSaid : Prop := Claim7.holds Tryz.pinned (.plain (OpenSpec.ofChange momentCallsSpec)) momentCallsCard

/-- THE TIED CARD OF 'privhouselaw10.MomentPure'. -/
def momentPureCard : Claim7 := { stood := { row := momentPureRow, standIns := [], harness := (true, "6dfa5268e05f8b3727006f59ffbba5b97d8dff33fb9fbadf899d305d5220ee0e"), looks := true }, kinds := [], alts := [], laidByText := true, laidKinds := [.data, .data, .data], laidTests := true, laidLooks := .later }
def MomentPureCardSaid : Prop := Claim7.holds Tryz.pinned (.plain (OpenSpec.ofChange momentPureSpec)) momentPureCard

/-- THE TIED CARD OF 'privhouselaw10.MomentDeltas'. -/
def momentDeltasCard : Claim7 := { stood := { row := momentDeltasRow, standIns := [], harness := (true, "6dfa5268e05f8b3727006f59ffbba5b97d8dff33fb9fbadf899d305d5220ee0e"), looks := true }, kinds := [], alts := [], laidByText := true, laidKinds := [.data, .data, .data], laidTests := true, laidLooks := .later }
def MomentDeltasCardSaid : Prop := Claim7.holds Tryz.pinned (.plain (OpenSpec.ofChange momentDeltasSpec)) momentDeltasCard

/-- THE TIED CARD OF 'privhouselaw10.MomentAdds'. -/
def momentAddsCard : Claim7 := { stood := { row := momentAddsRow, standIns := [], harness := (true, "6dfa5268e05f8b3727006f59ffbba5b97d8dff33fb9fbadf899d305d5220ee0e"), looks := true }, kinds := [], alts := [], laidByText := true, laidKinds := [.data, .data, .data], laidTests := true, laidLooks := .later }
def MomentAddsCardSaid : Prop := Claim7.holds Tryz.pinned (.plain (OpenSpec.ofChange momentAddsSpec)) momentAddsCard

/-- THE TIED CARD OF 'privhouselaw10.MomentBest'. -/
def momentBestCard : Claim7 := { stood := { row := momentBestRow, standIns := [], harness := (true, "6dfa5268e05f8b3727006f59ffbba5b97d8dff33fb9fbadf899d305d5220ee0e"), looks := true }, kinds := [], alts := [], laidByText := true, laidKinds := [.data, .data, .data], laidTests := true, laidLooks := .later }
def MomentBestCardSaid : Prop := Claim7.holds Tryz.pinned (.plain (OpenSpec.ofChange momentBestSpec)) momentBestCard

/-- THE TIED CARD OF 'privhouselaw10.MomentOrder'. -/
def momentOrderCard : Claim7 := { stood := { row := momentOrderRow, standIns := [], harness := (true, "6dfa5268e05f8b3727006f59ffbba5b97d8dff33fb9fbadf899d305d5220ee0e"), looks := true }, kinds := [], alts := [], laidByText := true, laidKinds := [.data, .data, .data], laidTests := true, laidLooks := .later }
def MomentOrderCardSaid : Prop := Claim7.holds Tryz.pinned (.plain (OpenSpec.ofChange momentOrderSpec)) momentOrderCard

/-- THE SECOND FORM's CARD OF 'privhouselaw09.LossCalls'. -/
def lossCallsUptoCard : Claim7 := { stood := { row := lossCallsUptoRow, standIns := [], harness := (true, "6dfa5268e05f8b3727006f59ffbba5b97d8dff33fb9fbadf899d305d5220ee0e"), looks := true }, kinds := [], alts := [], laidByText := true, laidKinds := [.data, .data, .data], laidTests := true, laidLooks := .later }
def LossCallsUptoCardSaid : Prop := Claim7.holds Tryz.pinned (.plain (OpenSpec.upto lossCallsSpec)) lossCallsUptoCard

/-- THE SECOND FORM's CARD OF 'privhouselaw09.LossRests'. -/
def lossRestsUptoCard : Claim7 := { stood := { row := lossRestsUptoRow, standIns := [], harness := (true, "6dfa5268e05f8b3727006f59ffbba5b97d8dff33fb9fbadf899d305d5220ee0e"), looks := true }, kinds := [], alts := [], laidByText := true, laidKinds := [.data, .data, .data], laidTests := true, laidLooks := .later }
def LossRestsUptoCardSaid : Prop := Claim7.holds Tryz.pinned (.plain (OpenSpec.upto lossRestsSpec)) lossRestsUptoCard

/-- THE SECOND FORM's CARD OF 'privhouselaw09.LossAdds'. -/
def lossAddsUptoCard : Claim7 := { stood := { row := lossAddsUptoRow, standIns := [], harness := (true, "6dfa5268e05f8b3727006f59ffbba5b97d8dff33fb9fbadf899d305d5220ee0e"), looks := true }, kinds := [], alts := [], laidByText := true, laidKinds := [.data, .data, .data], laidTests := true, laidLooks := .later }
def LossAddsUptoCardSaid : Prop := Claim7.holds Tryz.pinned (.plain (OpenSpec.upto lossAddsSpec)) lossAddsUptoCard

/-- THE SECOND FORM's CARD OF 'privhouselaw09.LossGroups'. -/
def lossGroupsUptoCard : Claim7 := { stood := { row := lossGroupsUptoRow, standIns := [], harness := (true, "6dfa5268e05f8b3727006f59ffbba5b97d8dff33fb9fbadf899d305d5220ee0e"), looks := true }, kinds := [], alts := [], laidByText := true, laidKinds := [.data, .data, .data], laidTests := true, laidLooks := .later }
def LossGroupsUptoCardSaid : Prop := Claim7.holds Tryz.pinned (.plain (OpenSpec.upto lossGroupsSpec)) lossGroupsUptoCard

/-- THE SECOND FORM's CARD OF 'privhouselaw09.LossLates'. -/
def lossLatesUptoCard : Claim7 := { stood := { row := lossLatesUptoRow, standIns := [], harness := (true, "6dfa5268e05f8b3727006f59ffbba5b97d8dff33fb9fbadf899d305d5220ee0e"), looks := true }, kinds := [], alts := [], laidByText := true, laidKinds := [.data, .data, .data], laidTests := true, laidLooks := .later }
def LossLatesUptoCardSaid : Prop := Claim7.holds Tryz.pinned (.plain (OpenSpec.upto lossLatesSpec)) lossLatesUptoCard

/-- THE SECOND FORM's CARD OF 'privhouselaw10.MomentNames'. -/
def momentNamesUptoCard : Claim7 := { stood := { row := momentNamesUptoRow, standIns := [], harness := (true, "6dfa5268e05f8b3727006f59ffbba5b97d8dff33fb9fbadf899d305d5220ee0e"), looks := true }, kinds := [], alts := [], laidByText := true, laidKinds := [.data, .data, .data], laidTests := true, laidLooks := .later }
def MomentNamesUptoCardSaid : Prop := Claim7.holds Tryz.pinned (.plain (OpenSpec.upto momentNamesSpec)) momentNamesUptoCard

/-- THE SECOND FORM's CARD OF 'privhouselaw10.MomentCalls'. -/
def momentCallsUptoCard : Claim7 := { stood := { row := momentCallsUptoRow, standIns := [], harness := (true, "6dfa5268e05f8b3727006f59ffbba5b97d8dff33fb9fbadf899d305d5220ee0e"), looks := true }, kinds := [], alts := [], laidByText := true, laidKinds := [.data, .data, .data], laidTests := true, laidLooks := .later }
def MomentCallsUptoCardSaid : Prop := Claim7.holds Tryz.pinned (.plain (OpenSpec.upto momentCallsSpec)) momentCallsUptoCard

/-- THE SECOND FORM's CARD OF 'privhouselaw10.MomentPure'. -/
def momentPureUptoCard : Claim7 := { stood := { row := momentPureUptoRow, standIns := [], harness := (true, "6dfa5268e05f8b3727006f59ffbba5b97d8dff33fb9fbadf899d305d5220ee0e"), looks := true }, kinds := [], alts := [], laidByText := true, laidKinds := [.data, .data, .data], laidTests := true, laidLooks := .later }
def MomentPureUptoCardSaid : Prop := Claim7.holds Tryz.pinned (.plain (OpenSpec.upto momentPureSpec)) momentPureUptoCard

/-- THE SECOND FORM's CARD OF 'privhouselaw10.MomentDeltas'. -/
def momentDeltasUptoCard : Claim7 := { stood := { row := momentDeltasUptoRow, standIns := [], harness := (true, "6dfa5268e05f8b3727006f59ffbba5b97d8dff33fb9fbadf899d305d5220ee0e"), looks := true }, kinds := [], alts := [], laidByText := true, laidKinds := [.data, .data, .data], laidTests := true, laidLooks := .later }
def MomentDeltasUptoCardSaid : Prop := Claim7.holds Tryz.pinned (.plain (OpenSpec.upto momentDeltasSpec)) momentDeltasUptoCard

/-- THE SECOND FORM's CARD OF 'privhouselaw10.MomentAdds'. -/
def momentAddsUptoCard : Claim7 := { stood := { row := momentAddsUptoRow, standIns := [], harness := (true, "6dfa5268e05f8b3727006f59ffbba5b97d8dff33fb9fbadf899d305d5220ee0e"), looks := true }, kinds := [], alts := [], laidByText := true, laidKinds := [.data, .data, .data], laidTests := true, laidLooks := .later }
def MomentAddsUptoCardSaid : Prop := Claim7.holds Tryz.pinned (.plain (OpenSpec.upto momentAddsSpec)) momentAddsUptoCard

/-- THE SECOND FORM's CARD OF 'privhouselaw10.MomentBest'. -/
def momentBestUptoCard : Claim7 := { stood := { row := momentBestUptoRow, standIns := [], harness := (true, "6dfa5268e05f8b3727006f59ffbba5b97d8dff33fb9fbadf899d305d5220ee0e"), looks := true }, kinds := [], alts := [], laidByText := true, laidKinds := [.data, .data, .data], laidTests := true, laidLooks := .later }
def MomentBestUptoCardSaid : Prop := Claim7.holds Tryz.pinned (.plain (OpenSpec.upto momentBestSpec)) momentBestUptoCard

/-- THE SECOND FORM's CARD OF 'privhouselaw10.MomentOrder'. -/
def momentOrderUptoCard : Claim7 := { stood := { row := momentOrderUptoRow, standIns := [], harness := (true, "6dfa5268e05f8b3727006f59ffbba5b97d8dff33fb9fbadf899d305d5220ee0e"), looks := true }, kinds := [], alts := [], laidByText := true, laidKinds := [.data, .data, .data], laidTests := true, laidLooks := .later }
def MomentOrderUptoCardSaid : Prop := Claim7.holds Tryz.pinned (.plain (OpenSpec.upto momentOrderSpec)) momentOrderUptoCard
end Rows
end Go.Proofs.YtkponlbpgmnpgaaGreatDoor
