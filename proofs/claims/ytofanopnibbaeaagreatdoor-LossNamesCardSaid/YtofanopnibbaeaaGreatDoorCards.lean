/-
  DERIVED. GIVEN WITH THE SEED: THE CARDS: each row of YtofanopnibbaeaaGreatDoorRows.lean that lists a variable, with what it lists TIED to the program's text (the seventh form; the later family's looks); each row that meets fmt, with fmt's text TOLD by the authors' own Lean function (tested against real Go, not proved from fmt's source: count such statements apart). THE CARD IS WHAT COUNTS. Prove the row's statement (the work); the ties are given (YtofanopnibbaeaaGreatDoorTie.lean); close each card by the builder's one call (the guide's Derived/Test/ToyasCard.lean, 'card_holds'). Laid BY PROGRAM, IN A SANDBOX (cutbox-door.mjs). By AI agents, Wed Nov 11 2026. No macro, syntax, notation, axiom, sorry.
-/
import Derived.Test.YtofanopnibbaeaaGreatDoorRows
import GoSem.ClaimSeven
namespace Go.Proofs.YtofanopnibbaeaaGreatDoor
namespace Rows

/-- THE TIED CARD OF 'privhouselaw08.DistNames'. -/
def distNamesCard : Claim7 := { stood := { row := distNamesRow, standIns := [], harness := (true, "76eea364d4eda0382ad5c926dbafe34f75e0b5d0e994ac3fb95d8635817ba4d0"), looks := true }, kinds := [], alts := [], laidByText := true, laidKinds := [.data, .data, .data], laidTests := true, laidLooks := .later }
def DistNamesCardSaid : Prop := Claim7.holds Tryz.pinned (.plain (OpenSpec.ofChange distNamesSpec)) distNamesCard

/-- THE TIED CARD OF 'privhouselaw08.DistPushes'. -/
def distPushesCard : Claim7 := { stood := { row := distPushesRow, standIns := [], harness := (true, "76eea364d4eda0382ad5c926dbafe34f75e0b5d0e994ac3fb95d8635817ba4d0"), looks := true }, kinds := [], alts := [], laidByText := true, laidKinds := [.data, .data, .data], laidTests := true, laidLooks := .later }
def DistPushesCardSaid : Prop := Claim7.holds Tryz.pinned (.plain (OpenSpec.ofChange distPushesSpec)) distPushesCard

/-- THE TIED CARD OF 'privhouselaw08.DistProducts'. -/
def distProductsCard : Claim7 := { stood := { row := distProductsRow, standIns := [], harness := (true, "76eea364d4eda0382ad5c926dbafe34f75e0b5d0e994ac3fb95d8635817ba4d0"), looks := true }, kinds := [], alts := [], laidByText := true, laidKinds := [.data, .data, .data], laidTests := true, laidLooks := .later }
def DistProductsCardSaid : Prop := Claim7.holds Tryz.pinned (.plain (OpenSpec.ofChange distProductsSpec)) distProductsCard

/-- THE TIED CARD OF 'privhouselaw08.DistMixes'. -/
def distMixesCard : Claim7 := { stood := { row := distMixesRow, standIns := [], harness := (true, "76eea364d4eda0382ad5c926dbafe34f75e0b5d0e994ac3fb95d8635817ba4d0"), looks := true }, kinds := [], alts := [], laidByText := true, laidKinds := [.data, .data, .data], laidTests := true, laidLooks := .later }
def DistMixesCardSaid : Prop := Claim7.holds Tryz.pinned (.plain (OpenSpec.ofChange distMixesSpec)) distMixesCard

/-- THE TIED CARD OF 'privhouselaw09.LossNames'. -/
def lossNamesCard : Claim7 := { stood := { row := lossNamesRow, standIns := [], harness := (true, "76eea364d4eda0382ad5c926dbafe34f75e0b5d0e994ac3fb95d8635817ba4d0"), looks := true }, kinds := [], alts := [], laidByText := true, laidKinds := [.data, .data, .data], laidTests := true, laidLooks := .later }
def LossNamesCardSaid : Prop := Claim7.holds Tryz.pinned (.plain (OpenSpec.ofChange lossNamesSpec)) lossNamesCard

/-- THE TIED CARD OF 'privhouselaw09.LossCalls'. -/
def lossCallsCard : Claim7 := { stood := { row := lossCallsRow, standIns := [], harness := (true, "76eea364d4eda0382ad5c926dbafe34f75e0b5d0e994ac3fb95d8635817ba4d0"), looks := true }, kinds := [], alts := [], laidByText := true, laidKinds := [.data, .data, .data], laidTests := true, laidLooks := .later }
def LossCallsCardSaid : Prop := Claim7.holds Tryz.pinned (.plain (OpenSpec.ofChange lossCallsSpec)) lossCallsCard

/-- THE TIED CARD OF 'privhouselaw09.LossRests'. -/
def lossRestsCard : Claim7 := { stood := { row := lossRestsRow, standIns := [], harness := (true, "76eea364d4eda0382ad5c926dbafe34f75e0b5d0e994ac3fb95d8635817ba4d0"), looks := true }, kinds := [], alts := [], laidByText := true, laidKinds := [.data, .data, .data], laidTests := true, laidLooks := .later }
def LossRestsCardSaid : Prop := Claim7.holds Tryz.pinned (.plain (OpenSpec.ofChange lossRestsSpec)) lossRestsCard

/-- THE TIED CARD OF 'privhouselaw09.LossAdds'. -/
def lossAddsCard : Claim7 := { stood := { row := lossAddsRow, standIns := [], harness := (true, "76eea364d4eda0382ad5c926dbafe34f75e0b5d0e994ac3fb95d8635817ba4d0"), looks := true }, kinds := [], alts := [], laidByText := true, laidKinds := [.data, .data, .data], laidTests := true, laidLooks := .later }
def LossAddsCardSaid : Prop := Claim7.holds Tryz.pinned (.plain (OpenSpec.ofChange lossAddsSpec)) lossAddsCard

/-- THE TIED CARD OF 'privhouselaw09.LossGroups'. -/
def lossGroupsCard : Claim7 := { stood := { row := lossGroupsRow, standIns := [], harness := (true, "76eea364d4eda0382ad5c926dbafe34f75e0b5d0e994ac3fb95d8635817ba4d0"), looks := true }, kinds := [], alts := [], laidByText := true, laidKinds := [.data, .data, .data], laidTests := true, laidLooks := .later }
def LossGroupsCardSaid : Prop := Claim7.holds Tryz.pinned (.plain (OpenSpec.ofChange lossGroupsSpec)) lossGroupsCard

/-- THE TIED CARD OF 'privhouselaw09.LossLates'. -/
def lossLatesCard : Claim7 := { stood := { row := lossLatesRow, standIns := [], harness := (true, "76eea364d4eda0382ad5c926dbafe34f75e0b5d0e994ac3fb95d8635817ba4d0"), looks := true }, kinds := [], alts := [], laidByText := true, laidKinds := [.data, .data, .data], laidTests := true, laidLooks := .later }
def LossLatesCardSaid : Prop := Claim7.holds Tryz.pinned (.plain (OpenSpec.ofChange lossLatesSpec)) lossLatesCard

/-- THE TIED CARD OF 'privhouselaw09.LossKeeps'. -/
def lossKeepsCard : Claim7 := { stood := { row := lossKeepsRow, standIns := [], harness := (true, "76eea364d4eda0382ad5c926dbafe34f75e0b5d0e994ac3fb95d8635817ba4d0"), looks := true }, kinds := [], alts := [], laidByText := true, laidKinds := [.data, .data, .data], laidTests := true, laidLooks := .later }
def LossKeepsCardSaid : Prop := Claim7.holds Tryz.pinned (.plain (OpenSpec.ofChange lossKeepsSpec)) lossKeepsCard

/-- THE TIED CARD OF 'privhouselaw09.LossOrder'. -/
def lossOrderCard : Claim7 := { stood := { row := lossOrderRow, standIns := [], harness := (true, "76eea364d4eda0382ad5c926dbafe34f75e0b5d0e994ac3fb95d8635817ba4d0"), looks := true }, kinds := [], alts := [], laidByText := true, laidKinds := [.data, .data, .data], laidTests := true, laidLooks := .later }
def LossOrderCardSaid : Prop := Claim7.holds Tryz.pinned (.plain (OpenSpec.ofChange lossOrderSpec)) lossOrderCard

/-- THE SECOND FORM's CARD OF 'privhouselaw08.DistNames'. -/
def distNamesUptoCard : Claim7 := { stood := { row := distNamesUptoRow, standIns := [], harness := (true, "76eea364d4eda0382ad5c926dbafe34f75e0b5d0e994ac3fb95d8635817ba4d0"), looks := true }, kinds := [], alts := [], laidByText := true, laidKinds := [.data, .data, .data], laidTests := true, laidLooks := .later }
def DistNamesUptoCardSaid : Prop := Claim7.holds Tryz.pinned (.plain (OpenSpec.upto distNamesSpec)) distNamesUptoCard

/-- THE SECOND FORM's CARD OF 'privhouselaw08.DistPushes'. -/
def distPushesUptoCard : Claim7 := { stood := { row := distPushesUptoRow, standIns := [], harness := (true, "76eea364d4eda0382ad5c926dbafe34f75e0b5d0e994ac3fb95d8635817ba4d0"), looks := true }, kinds := [], alts := [], laidByText := true, laidKinds := [.data, .data, .data], laidTests := true, laidLooks := .later }
def DistPushesUptoCardSaid : Prop := Claim7.holds Tryz.pinned (.plain (OpenSpec.upto distPushesSpec)) distPushesUptoCard

/-- THE SECOND FORM's CARD OF 'privhouselaw08.DistProducts'. -/
def distProductsUptoCard : Claim7 := { stood := { row := distProductsUptoRow, standIns := [], harness := (true, "76eea364d4eda0382ad5c926dbafe34f75e0b5d0e994ac3fb95d8635817ba4d0"), looks := true }, kinds := [], alts := [], laidByText := true, laidKinds := [.data, .data, .data], laidTests := true, laidLooks := .later }
def DistProductsUptoCardSaid : Prop := Claim7.holds Tryz.pinned (.plain (OpenSpec.upto distProductsSpec)) distProductsUptoCard

/-- THE SECOND FORM's CARD OF 'privhouselaw08.DistMixes'. -/
def distMixesUptoCard : Claim7 := { stood := { row := distMixesUptoRow, standIns := [], harness := (true, "76eea364d4eda0382ad5c926dbafe34f75e0b5d0e994ac3fb95d8635817ba4d0"), looks := true }, kinds := [], alts := [], laidByText := true, laidKinds := [.data, .data, .data], laidTests := true, laidLooks := .later }
def DistMixesUptoCardSaid : Prop := Claim7.holds Tryz.pinned (.plain (OpenSpec.upto distMixesSpec)) distMixesUptoCard

/-- THE SECOND FORM's CARD OF 'privhouselaw09.LossNames'. -/
def lossNamesUptoCard : Claim7 := { stood := { row := lossNamesUptoRow, standIns := [], harness := (true, "76eea364d4eda0382ad5c926dbafe34f75e0b5d0e994ac3fb95d8635817ba4d0"), looks := true }, kinds := [], alts := [], laidByText := true, laidKinds := [.data, .data, .data], laidTests := true, laidLooks := .later }
def LossNamesUptoCardSaid : Prop := Claim7.holds Tryz.pinned (.plain (OpenSpec.upto lossNamesSpec)) lossNamesUptoCard

/-- THE SECOND FORM's CARD OF 'privhouselaw09.LossCalls'. -/
def lossCallsUptoCard : Claim7 := { stood := { row := lossCallsUptoRow, standIns := [], harness := (true, "76eea364d4eda0382ad5c926dbafe34f75e0b5d0e994ac3fb95d8635817ba4d0"), looks := true }, kinds := [], alts := [], laidByText := true, laidKinds := [.data, .data, .data], laidTests := true, laidLooks := .later }
def LossCallsUptoCardSaid : Prop := Claim7.holds Tryz.pinned (.plain (OpenSpec.upto lossCallsSpec)) lossCallsUptoCard

/-- THE SECOND FORM's CARD OF 'privhouselaw09.LossRests'. -/
def lossRestsUptoCard : Claim7 := { stood := { row := lossRestsUptoRow, standIns := [], harness := (true, "76eea364d4eda0382ad5c926dbafe34f75e0b5d0e994ac3fb95d8635817ba4d0"), looks := true }, kinds := [], alts := [], laidByText := true, laidKinds := [.data, .data, .data], laidTests := true, laidLooks := .later }
def LossRestsUptoCardSaid : Prop := Claim7.holds Tryz.pinned (.plain (OpenSpec.upto lossRestsSpec)) lossRestsUptoCard

/-- THE SECOND FORM's CARD OF 'privhouselaw09.LossAdds'. -/
def lossAddsUptoCard : Claim7 := { stood := { row := lossAddsUptoRow, standIns := [], harness := (true, "76eea364d4eda0382ad5c926dbafe34f75e0b5d0e994ac3fb95d8635817ba4d0"), looks := true }, kinds := [], alts := [], laidByText := true, laidKinds := [.data, .data, .data], laidTests := true, laidLooks := .later }
def LossAddsUptoCardSaid : Prop := Claim7.holds Tryz.pinned (.plain (OpenSpec.upto lossAddsSpec)) lossAddsUptoCard

/-- THE SECOND FORM's CARD OF 'privhouselaw09.LossGroups'. -/
def lossGroupsUptoCard : Claim7 := { stood := { row := lossGroupsUptoRow, standIns := [], harness := (true, "76eea364d4eda0382ad5c926dbafe34f75e0b5d0e994ac3fb95d8635817ba4d0"), looks := true }, kinds := [], alts := [], laidByText := true, laidKinds := [.data, .data, .data], laidTests := true, laidLooks := .later }
def LossGroupsUptoCardSaid : Prop := Claim7.holds Tryz.pinned (.plain (OpenSpec.upto lossGroupsSpec)) lossGroupsUptoCard

/-- THE SECOND FORM's CARD OF 'privhouselaw09.LossLates'. -/
def lossLatesUptoCard : Claim7 := { stood := { row := lossLatesUptoRow, standIns := [], harness := (true, "76eea364d4eda0382ad5c926dbafe34f75e0b5d0e994ac3fb95d8635817ba4d0"), looks := true }, kinds := [], alts := [], laidByText := true, laidKinds := [.data, .data, .data], laidTests := true, laidLooks := .later }
def LossLatesUptoCardSaid : Prop := Claim7.holds Tryz.pinned (.plain (OpenSpec.upto lossLatesSpec)) lossLatesUptoCard

/-- THE SECOND FORM's CARD OF 'privhouselaw09.LossKeeps'. -/
def lossKeepsUptoCard : Claim7 := { stood := { row := lossKeepsUptoRow, standIns := [], harness := (true, "76eea364d4eda0382ad5c926dbafe34f75e0b5d0e994ac3fb95d8635817ba4d0"), looks := true }, kinds := [], alts := [], laidByText := true, laidKinds := [.data, .data, .data], laidTests := true, laidLooks := .later }
def LossKeepsUptoCardSaid : Prop := Claim7.holds Tryz.pinned (.plain (OpenSpec.upto lossKeepsSpec)) lossKeepsUptoCard

/-- THE SECOND FORM's CARD OF 'privhouselaw09.LossOrder'. -/
def lossOrderUptoCard : Claim7 := { stood := { row := lossOrderUptoRow, standIns := [], harness := (true, "76eea364d4eda0382ad5c926dbafe34f75e0b5d0e994ac3fb95d8635817ba4d0"), looks := true }, kinds := [], alts := [], laidByText := true, laidKinds := [.data, .data, .data], laidTests := true, laidLooks := .later }
def LossOrderUptoCardSaid : Prop := Claim7.holds Tryz.pinned (.plain (OpenSpec.upto lossOrderSpec)) lossOrderUptoCard
end Rows
end Go.Proofs.YtofanopnibbaeaaGreatDoor
