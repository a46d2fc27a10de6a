/-
  DERIVED. GIVEN WITH THE SEED: THE CARDS: each row of YtgkojegljeofeaaGreatDoorRows.lean that lists a variable, with what it lists TIED to the program's text (the seventh form; the later family's looks); each row that meets fmt, with fmt's text TOLD by the authors' own Lean function (tested against real Go, not proved from fmt's source: count such statements apart). THE CARD IS WHAT COUNTS. Prove the row's statement (the work); the ties are given (YtgkojegljeofeaaGreatDoorTie.lean); close each card by the builder's one call (the guide's Derived/Test/ToyasCard.lean, 'card_holds'). Laid BY PROGRAM, IN A SANDBOX (cutbox-door.mjs). By AI agents, Wed Nov 11 2026. No macro, syntax, notation, axiom, sorry.
-/
import Derived.Test.YtgkojegljeofeaaGreatDoorRows
import GoSem.ClaimSeven
namespace Go.Proofs.YtgkojegljeofeaaGreatDoor
namespace Rows

/-- THE TIED CARD OF 'privhouselaw08.DistNames'. -/
def distNamesCard : Claim7 := { stood := { row := distNamesRow, standIns := [], harness := (true, "af61b61c58acee9369401eb8b52cacae93a74e90acc07b01f67c1d51ffa93fba"), looks := false }, kinds := [], alts := [], laidByText := true, laidKinds := [.data, .data, .data], laidTests := true, laidLooks := .later }
def DistNamesCardSaid : Prop := Claim7.holds Tryz.pinned (.plain (OpenSpec.ofChange distNamesSpec)) distNamesCard

/-- THE TIED CARD OF 'privhouselaw08.DistMakes'. -/
def distMakesCard : Claim7 := { stood := { row := distMakesRow, standIns := [], harness := (true, "af61b61c58acee9369401eb8b52cacae93a74e90acc07b01f67c1d51ffa93fba"), looks := false }, kinds := [], alts := [], laidByText := true, laidKinds := [.data, .data, .data], laidTests := true, laidLooks := .later }
def DistMakesCardSaid : Prop := Claim7.holds Tryz.pinned (.plain (OpenSpec.ofChange distMakesSpec)) distMakesCard

/-- THE TIED CARD OF 'privhouselaw08.DistMeasures'. -/
def distMeasuresCard : Claim7 := { stood := { row := distMeasuresRow, standIns := [], harness := (true, "af61b61c58acee9369401eb8b52cacae93a74e90acc07b01f67c1d51ffa93fba"), looks := false }, kinds := [], alts := [], laidByText := true, laidKinds := [.data, .data, .data], laidTests := true, laidLooks := .later }
def DistMeasuresCardSaid : Prop := Claim7.holds Tryz.pinned (.plain (OpenSpec.ofChange distMeasuresSpec)) distMeasuresCard

/-- THE TIED CARD OF 'privhouselaw08.DistSets'. -/
def distSetsCard : Claim7 := { stood := { row := distSetsRow, standIns := [], harness := (true, "af61b61c58acee9369401eb8b52cacae93a74e90acc07b01f67c1d51ffa93fba"), looks := false }, kinds := [], alts := [], laidByText := true, laidKinds := [.data, .data, .data], laidTests := true, laidLooks := .later }
def DistSetsCardSaid : Prop := Claim7.holds Tryz.pinned (.plain (OpenSpec.ofChange distSetsSpec)) distSetsCard

/-- THE TIED CARD OF 'privhouselaw08.DistPushes'. -/
def distPushesCard : Claim7 := { stood := { row := distPushesRow, standIns := [], harness := (true, "af61b61c58acee9369401eb8b52cacae93a74e90acc07b01f67c1d51ffa93fba"), looks := false }, kinds := [], alts := [], laidByText := true, laidKinds := [.data, .data, .data], laidTests := true, laidLooks := .later }
def DistPushesCardSaid : Prop := Claim7.holds Tryz.pinned (.plain (OpenSpec.ofChange distPushesSpec)) distPushesCard

/-- THE TIED CARD OF 'privhouselaw08.DistProducts'. -/
def distProductsCard : Claim7 := { stood := { row := distProductsRow, standIns := [], harness := (true, "af61b61c58acee9369401eb8b52cacae93a74e90acc07b01f67c1d51ffa93fba"), looks := false }, kinds := [], alts := [], laidByText := true, laidKinds := [.data, .data, .data], laidTests := true, laidLooks := .later }
def DistProductsCardSaid : Prop := Claim7.holds Tryz.pinned (.plain (OpenSpec.ofChange distProductsSpec)) distProductsCard

/-- THE TIED CARD OF 'privhouselaw08.DistMixes'. -/
def distMixesCard : Claim7 := { stood := { row := distMixesRow, standIns := [], harness := (true, "af61b61c58acee9369401eb8b52cacae93a74e90acc07b01f67c1d51ffa93fba"), looks := false }, kinds := [], alts := [], laidByText := true, laidKinds := [.data, .data, .data], laidTests := true, laidLooks := .later }
def DistMixesCardSaid : Prop := Claim7.holds Tryz.pinned (.plain (OpenSpec.ofChange distMixesSpec)) distMixesCard

/-- THE TIED CARD OF 'privhouselaw08.DistFactors'. -/
def distFactorsCard : Claim7 := { stood := { row := distFactorsRow, standIns := [], harness := (true, "af61b61c58acee9369401eb8b52cacae93a74e90acc07b01f67c1d51ffa93fba"), looks := false }, kinds := [], alts := [], laidByText := true, laidKinds := [.data, .data, .data], laidTests := true, laidLooks := .later }
def DistFactorsCardSaid : Prop := Claim7.holds Tryz.pinned (.plain (OpenSpec.ofChange distFactorsSpec)) distFactorsCard

/-- THE TIED CARD OF 'privhouselaw08.DistTriangle'. -/
def distTriangleCard : Claim7 := { stood := { row := distTriangleRow, standIns := [], harness := (true, "af61b61c58acee9369401eb8b52cacae93a74e90acc07b01f67c1d51ffa93fba"), looks := false }, kinds := [], alts := [], laidByText := true, laidKinds := [.data, .data, .data], laidTests := true, laidLooks := .later }
def DistTriangleCardSaid : Prop := Claim7.holds Tryz.pinned (.plain (OpenSpec.ofChange distTriangleSpec)) distTriangleCard

/-- THE SECOND FORM's CARD OF 'privhouselaw08.DistNames'. -/
def distNamesUptoCard : Claim7 := { stood := { row := distNamesUptoRow, standIns := [], harness := (true, "af61b61c58acee9369401eb8b52cacae93a74e90acc07b01f67c1d51ffa93fba"), looks := false }, kinds := [], alts := [], laidByText := true, laidKinds := [.data, .data, .data], laidTests := true, laidLooks := .later }
def DistNamesUptoCardSaid : Prop := Claim7.holds Tryz.pinned (.plain (OpenSpec.upto distNamesSpec)) distNamesUptoCard

/-- THE SECOND FORM's CARD OF 'privhouselaw08.DistMakes'. -/
def distMakesUptoCard : Claim7 := { stood := { row := distMakesUptoRow, standIns := [], harness := (true, "af61b61c58acee9369401eb8b52cacae93a74e90acc07b01f67c1d51ffa93fba"), looks := false }, kinds := [], alts := [], laidByText := true, laidKinds := [.data, .data, .data], laidTests := true, laidLooks := .later }
def DistMakesUptoCardSaid : Prop := Claim7.holds Tryz.pinned (.plain (OpenSpec.upto distMakesSpec)) distMakesUptoCard

/-- THE SECOND FORM's CARD OF 'privhouselaw08.DistMeasures'. -/
def distMeasuresUptoCard : Claim7 := { stood := { row := distMeasuresUptoRow, standIns := [], harness := (true, "af61b61c58acee9369401eb8b52cacae93a74e90acc07b01f67c1d51ffa93fba"), looks := false }, kinds := [], alts := [], laidByText := true, laidKinds := [.data, .data, .data], laidTests := true, laidLooks := .later }
def DistMeasuresUptoCardSaid : Prop := Claim7.holds Tryz.pinned (.plain (OpenSpec.upto distMeasuresSpec)) distMeasuresUptoCard

/-- THE SECOND FORM's CARD OF 'privhouselaw08.DistSets'. -/
def distSetsUptoCard : Claim7 := { stood := { row := distSetsUptoRow, standIns := [], harness := (true, "af61b61c58acee9369401eb8b52cacae93a74e90acc07b01f67c1d51ffa93fba"), looks := false }, kinds := [], alts := [], laidByText := true, laidKinds := [.data, .data, .data], laidTests := true, laidLooks := .later }
def DistSetsUptoCardSaid : Prop := Claim7.holds Tryz.pinned (.plain (OpenSpec.upto distSetsSpec)) distSetsUptoCard

/-- THE SECOND FORM's CARD OF 'privhouselaw08.DistPushes'. -/
def distPushesUptoCard : Claim7 := { stood := { row := distPushesUptoRow, standIns := [], harness := (true, "af61b61c58acee9369401eb8b52cacae93a74e90acc07b01f67c1d51ffa93fba"), looks := false }, kinds := [], alts := [], laidByText := true, laidKinds := [.data, .data, .data], laidTests := true, laidLooks := .later }
def DistPushesUptoCardSaid : Prop := Claim7.holds Tryz.pinned (.plain (OpenSpec.upto distPushesSpec)) distPushesUptoCard

/-- THE SECOND FORM's CARD OF 'privhouselaw08.DistProducts'. -/
def distProductsUptoCard : Claim7 := { stood := { row := distProductsUptoRow, standIns := [], harness := (true, "af61b61c58acee9369401eb8b52cacae93a74e90acc07b01f67c1d51ffa93fba"), looks := false }, kinds := [], alts := [], laidByText := true, laidKinds := [.data, .data, .data], laidTests := true, laidLooks := .later }
def DistProductsUptoCardSaid : Prop := Claim7.holds Tryz.pinned (.plain (OpenSpec.upto distProductsSpec)) distProductsUptoCard

/-- THE SECOND FORM's CARD OF 'privhouselaw08.DistMixes'. -/
def distMixesUptoCard : Claim7 := { stood := { row := distMixesUptoRow, standIns := [], harness := (true, "af61b61c58acee9369401eb8b52cacae93a74e90acc07b01f67c1d51ffa93fba"), looks := false }, kinds := [], alts := [], laidByText := true, laidKinds := [.data, .data, .data], laidTests := true, laidLooks := .later }
def DistMixesUptoCardSaid : Prop := Claim7.holds Tryz.pinned (.plain (OpenSpec.upto distMixesSpec)) distMixesUptoCard

/-- THE SECOND FORM's CARD OF 'privhouselaw08.DistFactors'. -/
def distFactorsUptoCard : Claim7 := { stood := { row := distFactorsUptoRow, standIns := [], harness := (true, "af61b61c58acee9369401eb8b52cacae93a74e90acc07b01f67c1d51ffa93fba"), looks := false }, kinds := [], alts := [], laidByText := true, laidKinds := [.data, .data, .data], laidTests := true, laidLooks := .later }
def DistFactorsUptoCardSaid : Prop := Claim7.holds Tryz.pinned (.plain (OpenSpec.upto distFactorsSpec)) distFactorsUptoCard

/-- THE SECOND FORM's CARD OF 'privhouselaw08.DistTriangle'. -/
def distTriangleUptoCard : Claim7 := { stood := { row := distTriangleUptoRow, standIns := [], harness := (true, "af61b61c58acee9369401eb8b52cacae93a74e90acc07b01f67c1d51ffa93fba"), looks := false }, kinds := [], alts := [], laidByText := true, laidKinds := [.data, .data, .data], laidTests := true, laidLooks := .later }
def DistTriangleUptoCardSaid : Prop := Claim7.holds Tryz.pinned (.plain (OpenSpec.upto distTriangleSpec)) distTriangleUptoCard
end Rows
end Go.Proofs.YtgkojegljeofeaaGreatDoor
