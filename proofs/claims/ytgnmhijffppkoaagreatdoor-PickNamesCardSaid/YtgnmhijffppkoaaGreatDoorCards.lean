/-
  DERIVED. GIVEN WITH THE SEED: THE CARDS: each row of YtgnmhijffppkoaaGreatDoorRows.lean that lists a variable, with what it lists TIED to the program's text (the seventh form; the later family's looks); each row that meets fmt, with fmt's text TOLD by the authors' own Lean function (tested against real Go, not proved from fmt's source: count such statements apart). THE CARD IS WHAT COUNTS. Prove the row's statement (the work); the ties are given (YtgnmhijffppkoaaGreatDoorTie.lean); close each card by the builder's one call (the guide's Derived/Test/ToyasCard.lean, 'card_holds'). Laid BY PROGRAM, IN A SANDBOX (cutbox-door.mjs). By AI agents, Wed Nov 11 2026. No macro, syntax, notation, axiom, sorry.
-/
import Derived.Test.YtgnmhijffppkoaaGreatDoorRows
import GoSem.ClaimSeven
namespace Go.Proofs.YtgnmhijffppkoaaGreatDoor
namespace Rows

/-- THE TIED CARD OF 'privhouselaw03.BitsCalls'. -/
def bitsCallsCard : Claim7 := { stood := { row := bitsCallsRow, standIns := [], harness := (true, "bbb478371783f521d1bab0772faa26915c71edac001eaad0f6c2ef7d415d1817"), looks := true }, kinds := [], alts := [], laidByText := true, laidKinds := [.data, .data, .data, .sentinel, .sentinel], laidTests := true, laidLooks := .later }
def BitsCallsCardSaid : Prop := Claim7.holds Tryz.pinned (.plain (OpenSpec.ofChange bitsCallsSpec)) bitsCallsCard

/-- THE TIED CARD OF 'privhouselaw04.CoinCalls'. -/
def coinCallsCard : Claim7 := { stood := { row := coinCallsRow, standIns := [], harness := (true, "bbb478371783f521d1bab0772faa26915c71edac001eaad0f6c2ef7d415d1817"), looks := true }, kinds := [], alts := [], laidByText := true, laidKinds := [.data, .data, .data], laidTests := true, laidLooks := .later }
def CoinCallsCardSaid : Prop := Claim7.holds Tryz.pinned (.plain (OpenSpec.ofChange coinCallsSpec)) coinCallsCard

/-- THE TIED CARD OF 'privhouselaw05.PickNames'. -/
def pickNamesCard : Claim7 := { stood := { row := pickNamesRow, standIns := [], harness := (true, "bbb478371783f521d1bab0772faa26915c71edac001eaad0f6c2ef7d415d1817"), looks := true }, kinds := [], alts := [], laidByText := true, laidKinds := [.data, .data, .data], laidTests := true, laidLooks := .later }
def PickNamesCardSaid : Prop := Claim7.holds Tryz.pinned (.plain (OpenSpec.ofChange pickNamesSpec)) pickNamesCard

/-- THE TIED CARD OF 'privhouselaw05.PickCalls'. -/
def pickCallsCard : Claim7 := { stood := { row := pickCallsRow, standIns := [], harness := (true, "bbb478371783f521d1bab0772faa26915c71edac001eaad0f6c2ef7d415d1817"), looks := true }, kinds := [], alts := [], laidByText := true, laidKinds := [.data, .data, .data], laidTests := true, laidLooks := .later }
def PickCallsCardSaid : Prop := Claim7.holds Tryz.pinned (.plain (OpenSpec.ofChange pickCallsSpec)) pickCallsCard

/-- THE TIED CARD OF 'privhouselaw05.PickCounts'. -/
def pickCountsCard : Claim7 := { stood := { row := pickCountsRow, standIns := [], harness := (true, "bbb478371783f521d1bab0772faa26915c71edac001eaad0f6c2ef7d415d1817"), looks := true }, kinds := [], alts := [], laidByText := true, laidKinds := [.data, .data, .data], laidTests := true, laidLooks := .later }
def PickCountsCardSaid : Prop := Claim7.holds Tryz.pinned (.plain (OpenSpec.ofChange pickCountsSpec)) pickCountsCard

/-- THE TIED CARD OF 'privhouselaw05.PickNear'. -/
def pickNearCard : Claim7 := { stood := { row := pickNearRow, standIns := [], harness := (true, "bbb478371783f521d1bab0772faa26915c71edac001eaad0f6c2ef7d415d1817"), looks := true }, kinds := [], alts := [], laidByText := true, laidKinds := [.data, .data, .data], laidTests := true, laidLooks := .later }
def PickNearCardSaid : Prop := Claim7.holds Tryz.pinned (.plain (OpenSpec.ofChange pickNearSpec)) pickNearCard

/-- THE TIED CARD OF 'privhouselaw05.PickScaled'. -/
def pickScaledCard : Claim7 := { stood := { row := pickScaledRow, standIns := [], harness := (true, "bbb478371783f521d1bab0772faa26915c71edac001eaad0f6c2ef7d415d1817"), looks := true }, kinds := [], alts := [], laidByText := true, laidKinds := [.data, .data, .data], laidTests := true, laidLooks := .later }
def PickScaledCardSaid : Prop := Claim7.holds Tryz.pinned (.plain (OpenSpec.ofChange pickScaledSpec)) pickScaledCard

/-- THE SECOND FORM's CARD OF 'privhouselaw03.BitsCalls'. -/
def bitsCallsUptoCard : Claim7 := { stood := { row := bitsCallsUptoRow, standIns := [], harness := (true, "bbb478371783f521d1bab0772faa26915c71edac001eaad0f6c2ef7d415d1817"), looks := true }, kinds := [], alts := [], laidByText := true, laidKinds := [.data, .data, .data, .sentinel, .sentinel], laidTests := true, laidLooks := .later }
def BitsCallsUptoCardSaid : Prop := Claim7.holds Tryz.pinned (.plain (OpenSpec.upto bitsCallsSpec)) bitsCallsUptoCard

/-- THE SECOND FORM's CARD OF 'privhouselaw04.CoinCalls'. -/
def coinCallsUptoCard : Claim7 := { stood := { row := coinCallsUptoRow, standIns := [], harness := (true, "bbb478371783f521d1bab0772faa26915c71edac001eaad0f6c2ef7d415d1817"), looks := true }, kinds := [], alts := [], laidByText := true, laidKinds := [.data, .data, .data], laidTests := true, laidLooks := .later }
def CoinCallsUptoCardSaid : Prop := Claim7.holds Tryz.pinned (.plain (OpenSpec.upto coinCallsSpec)) coinCallsUptoCard

/-- THE SECOND FORM's CARD OF 'privhouselaw05.PickNames'. -/
def pickNamesUptoCard : Claim7 := { stood := { row := pickNamesUptoRow, standIns := [], harness := (true, "bbb478371783f521d1bab0772faa26915c71edac001eaad0f6c2ef7d415d1817"), looks := true }, kinds := [], alts := [], laidByText := true, laidKinds := [.data, .data, .data], laidTests := true, laidLooks := .later }
def PickNamesUptoCardSaid : Prop := Claim7.holds Tryz.pinned (.plain (OpenSpec.upto pickNamesSpec)) pickNamesUptoCard

/-- THE SECOND FORM's CARD OF 'privhouselaw05.PickCalls'. -/
def pickCallsUptoCard : Claim7 := { stood := { row := pickCallsUptoRow, standIns := [], harness := (true, "bbb478371783f521d1bab0772faa26915c71edac001eaad0f6c2ef7d415d1817"), looks := true }, kinds := [], alts := [], laidByText := true, laidKinds := [.data, .data, .data], laidTests := true, laidLooks := .later }
def PickCallsUptoCardSaid : Prop := Claim7.holds Tryz.pinned (.plain (OpenSpec.upto pickCallsSpec)) pickCallsUptoCard

/-- THE SECOND FORM's CARD OF 'privhouselaw05.PickCounts'. -/
def pickCountsUptoCard : Claim7 := { stood := { row := pickCountsUptoRow, standIns := [], harness := (true, "bbb478371783f521d1bab0772faa26915c71edac001eaad0f6c2ef7d415d1817"), looks := true }, kinds := [], alts := [], laidByText := true, laidKinds := [.data, .data, .data], laidTests := true, laidLooks := .later }
def PickCountsUptoCardSaid : Prop := Claim7.holds Tryz.pinned (.plain (OpenSpec.upto pickCountsSpec)) pickCountsUptoCard

/-- THE SECOND FORM's CARD OF 'privhouselaw05.PickNear'. -/
def pickNearUptoCard : Claim7 := { stood := { row := pickNearUptoRow, standIns := [], harness := (true, "bbb478371783f521d1bab0772faa26915c71edac001eaad0f6c2ef7d415d1817"), looks := true }, kinds := [], alts := [], laidByText := true, laidKinds := [.data, .data, .data], laidTests := true, laidLooks := .later }
def PickNearUptoCardSaid : Prop := Claim7.holds Tryz.pinned (.plain (OpenSpec.upto pickNearSpec)) pickNearUptoCard

/-- THE SECOND FORM's CARD OF 'privhouselaw05.PickScaled'. -/
def pickScaledUptoCard : Claim7 := { stood := { row := pickScaledUptoRow, standIns := [], harness := (true, "bbb478371783f521d1bab0772faa26915c71edac001eaad0f6c2ef7d415d1817"), looks := true }, kinds := [], alts := [], laidByText := true, laidKinds := [.data, .data, .data], laidTests := true, laidLooks := .later }
def PickScaledUptoCardSaid : Prop := Claim7.holds Tryz.pinned (.plain (OpenSpec.upto pickScaledSpec)) pickScaledUptoCard
end Rows
end Go.Proofs.YtgnmhijffppkoaaGreatDoor
