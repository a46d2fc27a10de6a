/-
  DERIVED. GIVEN WITH THE SEED: THE CARDS: each row of YtpkbppfgmpcpcaaGreatDoorRows.lean that lists a variable, with what it lists TIED to the program's text (the seventh form; the later family's looks); each row that meets fmt, with fmt's text TOLD by the authors' own Lean function (tested against real Go, not proved from fmt's source: count such statements apart). THE CARD IS WHAT COUNTS. Prove the row's statement (the work); the ties are given (YtpkbppfgmpcpcaaGreatDoorTie.lean); close each card by the builder's one call (the guide's Derived/Test/ToyasCard.lean, 'card_holds'). Laid BY PROGRAM, IN A SANDBOX (cutbox-door.mjs). By AI agents, Wed Nov 11 2026. No macro, syntax, notation, axiom, sorry.
-/
import Derived.Test.YtpkbppfgmpcpcaaGreatDoorRows
import GoSem.ClaimSeven
namespace Go.Proofs.YtpkbppfgmpcpcaaGreatDoor
namespace Rows

/-- THE TIED CARD OF 'privhouselaw03.BitsCalls'. -/
def bitsCallsCard : Claim7 := { stood := { row := bitsCallsRow, standIns := [], harness := (true, "28d361eb8fba7ce15bcec6b5964ed56a154bd569c6bd602104846e406671d60e"), looks := true }, kinds := [], alts := [], laidByText := true, laidKinds := [.data, .data, .data, .sentinel, .sentinel], laidTests := true, laidLooks := .later }
def BitsCallsCardSaid : Prop := Claim7.holds Tryz.pinned (.plain (OpenSpec.ofChange bitsCallsSpec)) bitsCallsCard

/-- THE TIED CARD OF 'privhouselaw04.CoinCalls'. -/
def coinCallsCard : Claim7 := { stood := { row := coinCallsRow, standIns := [], harness := (true, "28d361eb8fba7ce15bcec6b5964ed56a154bd569c6bd602104846e406671d60e"), looks := true }, kinds := [], alts := [], laidByText := true, laidKinds := [.data, .data, .data], laidTests := true, laidLooks := .later }
def CoinCallsCardSaid : Prop := Claim7.holds Tryz.pinned (.plain (OpenSpec.ofChange coinCallsSpec)) coinCallsCard

/-- THE TIED CARD OF 'privhouselaw05.PickCalls'. -/
def pickCallsCard : Claim7 := { stood := { row := pickCallsRow, standIns := [], harness := (true, "28d361eb8fba7ce15bcec6b5964ed56a154bd569c6bd602104846e406671d60e"), looks := true }, kinds := [], alts := [], laidByText := true, laidKinds := [.data, .data, .data], laidTests := true, laidLooks := .later }
def PickCallsCardSaid : Prop := Claim7.holds Tryz.pinned (.plain (OpenSpec.ofChange pickCallsSpec)) pickCallsCard

/-- THE TIED CARD OF 'privhouselaw05.PickNear'. -/
def pickNearCard : Claim7 := { stood := { row := pickNearRow, standIns := [], harness := (true, "28d361eb8fba7ce15bcec6b5964ed56a154bd569c6bd602104846e406671d60e"), looks := true }, kinds := [], alts := [], laidByText := true, laidKinds := [.data, .data, .data], laidTests := true, laidLooks := .later }
def PickNearCardSaid : Prop := Claim7.holds Tryz.pinned (.plain (OpenSpec.ofChange pickNearSpec)) pickNearCard

/-- THE TIED CARD OF 'privhouselaw06.GeomNames'. -/
def geomNamesCard : Claim7 := { stood := { row := geomNamesRow, standIns := [], harness := (true, "28d361eb8fba7ce15bcec6b5964ed56a154bd569c6bd602104846e406671d60e"), looks := true }, kinds := [], alts := [], laidByText := true, laidKinds := [.data, .data, .data, .data, .sentinel, .sentinel, .pinned], laidTests := true, laidLooks := .later }
def GeomNamesCardSaid : Prop := Claim7.holds Tryz.pinned (.plain (OpenSpec.ofChange geomNamesSpec)) geomNamesCard

/-- THE TIED CARD OF 'privhouselaw06.GeomCalls'. -/
def geomCallsCard : Claim7 := { stood := { row := geomCallsRow, standIns := [], harness := (true, "28d361eb8fba7ce15bcec6b5964ed56a154bd569c6bd602104846e406671d60e"), looks := true }, kinds := [], alts := [], laidByText := true, laidKinds := [.data, .data, .data, .data, .sentinel, .sentinel, .pinned], laidTests := true, laidLooks := .later }
def GeomCallsCardSaid : Prop := Claim7.holds Tryz.pinned (.plain (OpenSpec.ofChange geomCallsSpec)) geomCallsCard

/-- THE TIED CARD OF 'privhouselaw06.GeomLaws'. -/
def geomLawsCard : Claim7 := { stood := { row := geomLawsRow, standIns := [], harness := (true, "28d361eb8fba7ce15bcec6b5964ed56a154bd569c6bd602104846e406671d60e"), looks := true }, kinds := [], alts := [], laidByText := true, laidKinds := [.data, .data, .data, .data, .sentinel, .sentinel, .pinned], laidTests := true, laidLooks := .later }
def GeomLawsCardSaid : Prop := Claim7.holds Tryz.pinned (.plain (OpenSpec.ofChange geomLawsSpec)) geomLawsCard

/-- THE TIED CARD OF 'privhouselaw06.GeomCounts'. -/
def geomCountsCard : Claim7 := { stood := { row := geomCountsRow, standIns := [], harness := (true, "28d361eb8fba7ce15bcec6b5964ed56a154bd569c6bd602104846e406671d60e"), looks := true }, kinds := [], alts := [], laidByText := true, laidKinds := [.data, .data, .data, .data, .sentinel, .sentinel, .pinned], laidTests := true, laidLooks := .later }
def GeomCountsCardSaid : Prop := Claim7.holds Tryz.pinned (.plain (OpenSpec.ofChange geomCountsSpec)) geomCountsCard

/-- THE TIED CARD OF 'privhouselaw06.GeomMass'. -/
def geomMassCard : Claim7 := { stood := { row := geomMassRow, standIns := [], harness := (true, "28d361eb8fba7ce15bcec6b5964ed56a154bd569c6bd602104846e406671d60e"), looks := true }, kinds := [], alts := [], laidByText := true, laidKinds := [.data, .data, .data, .data, .sentinel, .sentinel, .pinned], laidTests := true, laidLooks := .later }
def GeomMassCardSaid : Prop := Claim7.holds Tryz.pinned (.plain (OpenSpec.ofChange geomMassSpec)) geomMassCard

/-- THE TIED CARD OF 'privhouselaw06.GeomNear'. -/
def geomNearCard : Claim7 := { stood := { row := geomNearRow, standIns := [], harness := (true, "28d361eb8fba7ce15bcec6b5964ed56a154bd569c6bd602104846e406671d60e"), looks := true }, kinds := [], alts := [], laidByText := true, laidKinds := [.data, .data, .data, .data, .sentinel, .sentinel, .pinned], laidTests := true, laidLooks := .later }
def GeomNearCardSaid : Prop := Claim7.holds Tryz.pinned (.plain (OpenSpec.ofChange geomNearSpec)) geomNearCard

/-- THE TIED CARD OF 'privhouselaw06.GeomCoins'. -/
def geomCoinsCard : Claim7 := { stood := { row := geomCoinsRow, standIns := [], harness := (true, "28d361eb8fba7ce15bcec6b5964ed56a154bd569c6bd602104846e406671d60e"), looks := true }, kinds := [], alts := [], laidByText := true, laidKinds := [.data, .data, .data, .data, .sentinel, .sentinel, .pinned], laidTests := true, laidLooks := .later }
def GeomCoinsCardSaid : Prop := Claim7.holds Tryz.pinned (.plain (OpenSpec.ofChange geomCoinsSpec)) geomCoinsCard

/-- THE SECOND FORM's CARD OF 'privhouselaw03.BitsCalls'. -/
def bitsCallsUptoCard : Claim7 := { stood := { row := bitsCallsUptoRow, standIns := [], harness := (true, "28d361eb8fba7ce15bcec6b5964ed56a154bd569c6bd602104846e406671d60e"), looks := true }, kinds := [], alts := [], laidByText := true, laidKinds := [.data, .data, .data, .sentinel, .sentinel], laidTests := true, laidLooks := .later }
def BitsCallsUptoCardSaid : Prop := Claim7.holds Tryz.pinned (.plain (OpenSpec.upto bitsCallsSpec)) bitsCallsUptoCard

/-- THE SECOND FORM's CARD OF 'privhouselaw04.CoinCalls'. -/
def coinCallsUptoCard : Claim7 := { stood := { row := coinCallsUptoRow, standIns := [], harness := (true, "28d361eb8fba7ce15bcec6b5964ed56a154bd569c6bd602104846e406671d60e"), looks := true }, kinds := [], alts := [], laidByText := true, laidKinds := [.data, .data, .data], laidTests := true, laidLooks := .later }
def CoinCallsUptoCardSaid : Prop := Claim7.holds Tryz.pinned (.plain (OpenSpec.upto coinCallsSpec)) coinCallsUptoCard

/-- THE SECOND FORM's CARD OF 'privhouselaw05.PickCalls'. -/
def pickCallsUptoCard : Claim7 := { stood := { row := pickCallsUptoRow, standIns := [], harness := (true, "28d361eb8fba7ce15bcec6b5964ed56a154bd569c6bd602104846e406671d60e"), looks := true }, kinds := [], alts := [], laidByText := true, laidKinds := [.data, .data, .data], laidTests := true, laidLooks := .later }
def PickCallsUptoCardSaid : Prop := Claim7.holds Tryz.pinned (.plain (OpenSpec.upto pickCallsSpec)) pickCallsUptoCard

/-- THE SECOND FORM's CARD OF 'privhouselaw05.PickNear'. -/
def pickNearUptoCard : Claim7 := { stood := { row := pickNearUptoRow, standIns := [], harness := (true, "28d361eb8fba7ce15bcec6b5964ed56a154bd569c6bd602104846e406671d60e"), looks := true }, kinds := [], alts := [], laidByText := true, laidKinds := [.data, .data, .data], laidTests := true, laidLooks := .later }
def PickNearUptoCardSaid : Prop := Claim7.holds Tryz.pinned (.plain (OpenSpec.upto pickNearSpec)) pickNearUptoCard

/-- THE SECOND FORM's CARD OF 'privhouselaw06.GeomNames'. -/
def geomNamesUptoCard : Claim7 := { stood := { row := geomNamesUptoRow, standIns := [], harness := (true, "28d361eb8fba7ce15bcec6b5964ed56a154bd569c6bd602104846e406671d60e"), looks := true }, kinds := [], alts := [], laidByText := true, laidKinds := [.data, .data, .data, .data, .sentinel, .sentinel, .pinned], laidTests := true, laidLooks := .later }
def GeomNamesUptoCardSaid : Prop := Claim7.holds Tryz.pinned (.plain (OpenSpec.upto geomNamesSpec)) geomNamesUptoCard

/-- THE SECOND FORM's CARD OF 'privhouselaw06.GeomCalls'. -/
def geomCallsUptoCard : Claim7 := { stood := { row := geomCallsUptoRow, standIns := [], harness := (true, "28d361eb8fba7ce15bcec6b5964ed56a154bd569c6bd602104846e406671d60e"), looks := true }, kinds := [], alts := [], laidByText := true, laidKinds := [.data, .data, .data, .data, .sentinel, .sentinel, .pinned], laidTests := true, laidLooks := .later }
def GeomCallsUptoCardSaid : Prop := Claim7.holds Tryz.pinned (.plain (OpenSpec.upto geomCallsSpec)) geomCallsUptoCard

/-- THE SECOND FORM's CARD OF 'privhouselaw06.GeomLaws'. -/
def geomLawsUptoCard : Claim7 := { stood := { row := geomLawsUptoRow, standIns := [], harness := (true, "28d361eb8fba7ce15bcec6b5964ed56a154bd569c6bd602104846e406671d60e"), looks := true }, kinds := [], alts := [], laidByText := true, laidKinds := [.data, .data, .data, .data, .sentinel, .sentinel, .pinned], laidTests := true, laidLooks := .later }
def GeomLawsUptoCardSaid : Prop := Claim7.holds Tryz.pinned (.plain (OpenSpec.upto geomLawsSpec)) geomLawsUptoCard

/-- THE SECOND FORM's CARD OF 'privhouselaw06.GeomCounts'. -/
def geomCountsUptoCard : Claim7 := { stood := { row := geomCountsUptoRow, standIns := [], harness := (true, "28d361eb8fba7ce15bcec6b5964ed56a154bd569c6bd602104846e406671d60e"), looks := true }, kinds := [], alts := [], laidByText := true, laidKinds := [.data, .data, .data, .data, .sentinel, .sentinel, .pinned], laidTests := true, laidLooks := .later }
def GeomCountsUptoCardSaid : Prop := Claim7.holds Tryz.pinned (.plain (OpenSpec.upto geomCountsSpec)) geomCountsUptoCard

/-- THE SECOND FORM's CARD OF 'privhouselaw06.GeomMass'. -/
def geomMassUptoCard : Claim7 := { stood := { row := geomMassUptoRow, standIns := [], harness := (true, "28d361eb8fba7ce15bcec6b5964ed56a154bd569c6bd602104846e406671d60e"), looks := true }, kinds := [], alts := [], laidByText := true, laidKinds := [.data, .data, .data, .data, .sentinel, .sentinel, .pinned], laidTests := true, laidLooks := .later }
def GeomMassUptoCardSaid : Prop := Claim7.holds Tryz.pinned (.plain (OpenSpec.upto geomMassSpec)) geomMassUptoCard

/-- THE SECOND FORM's CARD OF 'privhouselaw06.GeomNear'. -/
def geomNearUptoCard : Claim7 := { stood := { row := geomNearUptoRow, standIns := [], harness := (true, "28d361eb8fba7ce15bcec6b5964ed56a154bd569c6bd602104846e406671d60e"), looks := true }, kinds := [], alts := [], laidByText := true, laidKinds := [.data, .data, .data, .data, .sentinel, .sentinel, .pinned], laidTests := true, laidLooks := .later }
def GeomNearUptoCardSaid : Prop := Claim7.holds Tryz.pinned (.plain (OpenSpec.upto geomNearSpec)) geomNearUptoCard

/-- THE SECOND FORM's CARD OF 'privhouselaw06.GeomCoins'. -/
def geomCoinsUptoCard : Claim7 := { stood := { row := geomCoinsUptoRow, standIns := [], harness := (true, "28d361eb8fba7ce15bcec6b5964ed56a154bd569c6bd602104846e406671d60e"), looks := true }, kinds := [], alts := [], laidByText := true, laidKinds := [.data, .data, .data, .data, .sentinel, .sentinel, .pinned], laidTests := true, laidLooks := .later }
def GeomCoinsUptoCardSaid : Prop := Claim7.holds Tryz.pinned (.plain (OpenSpec.upto geomCoinsSpec)) geomCoinsUptoCard
end Rows
end Go.Proofs.YtpkbppfgmpcpcaaGreatDoor
