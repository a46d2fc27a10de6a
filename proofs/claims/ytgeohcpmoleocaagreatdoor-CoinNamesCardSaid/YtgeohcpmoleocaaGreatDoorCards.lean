/-
  DERIVED. GIVEN WITH THE SEED: THE CARDS: each row of YtgeohcpmoleocaaGreatDoorRows.lean that lists a variable, with what it lists TIED to the program's text (the seventh form; the later family's looks); each row that meets fmt, with fmt's text TOLD by the authors' own Lean function (tested against real Go, not proved from fmt's source: count such statements apart). THE CARD IS WHAT COUNTS. Prove the row's statement (the work); the ties are given (YtgeohcpmoleocaaGreatDoorTie.lean); close each card by the builder's one call (the guide's Derived/Test/ToyasCard.lean, 'card_holds'). Laid BY PROGRAM, IN A SANDBOX (cutbox-door.mjs). By AI agents, Wed Nov 11 2026. No macro, syntax, notation, axiom, sorry.
-/
import Derived.Test.YtgeohcpmoleocaaGreatDoorRows
import GoSem.ClaimSeven
namespace Go.Proofs.YtgeohcpmoleocaaGreatDoor
namespace Rows

/-- THE TIED CARD OF 'privhouselaw02.RatOnes'. -/
def ratOnesCard : Claim7 := { stood := { row := ratOnesRow, standIns := [], harness := (true, "2e109445097e54cdfa14dc9a174719f5ee2562608578e8d888ccdd95fb564e18"), looks := true }, kinds := [], alts := [], laidByText := true, laidKinds := [.data, .data, .data], laidTests := true, laidLooks := .later }
def RatOnesCardSaid : Prop := Claim7.holds Tryz.pinned (.plain (OpenSpec.ofChange ratOnesSpec)) ratOnesCard

/-- THE TIED CARD OF 'privhouselaw03.BitsNames'. -/
def bitsNamesCard : Claim7 := { stood := { row := bitsNamesRow, standIns := [], harness := (true, "2e109445097e54cdfa14dc9a174719f5ee2562608578e8d888ccdd95fb564e18"), looks := true }, kinds := [], alts := [], laidByText := true, laidKinds := [.data, .data, .data, .sentinel, .sentinel], laidTests := true, laidLooks := .later }
def BitsNamesCardSaid : Prop := Claim7.holds Tryz.pinned (.plain (OpenSpec.ofChange bitsNamesSpec)) bitsNamesCard

/-- THE TIED CARD OF 'privhouselaw03.BitsCalls'. -/
def bitsCallsCard : Claim7 := { stood := { row := bitsCallsRow, standIns := [], harness := (true, "2e109445097e54cdfa14dc9a174719f5ee2562608578e8d888ccdd95fb564e18"), looks := true }, kinds := [], alts := [], laidByText := true, laidKinds := [.data, .data, .data, .sentinel, .sentinel], laidTests := true, laidLooks := .later }
def BitsCallsCardSaid : Prop := Claim7.holds Tryz.pinned (.plain (OpenSpec.ofChange bitsCallsSpec)) bitsCallsCard

/-- THE TIED CARD OF 'privhouselaw03.BitsAll'. -/
def bitsAllCard : Claim7 := { stood := { row := bitsAllRow, standIns := [], harness := (true, "2e109445097e54cdfa14dc9a174719f5ee2562608578e8d888ccdd95fb564e18"), looks := true }, kinds := [], alts := [], laidByText := true, laidKinds := [.data, .data, .data], laidTests := true, laidLooks := .later }
def BitsAllCardSaid : Prop := Claim7.holds Tryz.pinned (.plain (OpenSpec.ofChange bitsAllSpec)) bitsAllCard

/-- THE TIED CARD OF 'privhouselaw03.BitsHalves'. -/
def bitsHalvesCard : Claim7 := { stood := { row := bitsHalvesRow, standIns := [], harness := (true, "2e109445097e54cdfa14dc9a174719f5ee2562608578e8d888ccdd95fb564e18"), looks := true }, kinds := [], alts := [], laidByText := true, laidKinds := [.data, .data, .data], laidTests := true, laidLooks := .later }
def BitsHalvesCardSaid : Prop := Claim7.holds Tryz.pinned (.plain (OpenSpec.ofChange bitsHalvesSpec)) bitsHalvesCard

/-- THE TIED CARD OF 'privhouselaw03.BitsBack'. -/
def bitsBackCard : Claim7 := { stood := { row := bitsBackRow, standIns := [], harness := (true, "2e109445097e54cdfa14dc9a174719f5ee2562608578e8d888ccdd95fb564e18"), looks := true }, kinds := [], alts := [], laidByText := true, laidKinds := [.data, .data, .data, .sentinel, .sentinel], laidTests := true, laidLooks := .later }
def BitsBackCardSaid : Prop := Claim7.holds Tryz.pinned (.plain (OpenSpec.ofChange bitsBackSpec)) bitsBackCard

/-- THE TIED CARD OF 'privhouselaw03.BitsPieces'. -/
def bitsPiecesCard : Claim7 := { stood := { row := bitsPiecesRow, standIns := [], harness := (true, "2e109445097e54cdfa14dc9a174719f5ee2562608578e8d888ccdd95fb564e18"), looks := true }, kinds := [], alts := [], laidByText := true, laidKinds := [.data, .data, .data], laidTests := true, laidLooks := .later }
def BitsPiecesCardSaid : Prop := Claim7.holds Tryz.pinned (.plain (OpenSpec.ofChange bitsPiecesSpec)) bitsPiecesCard

/-- THE TIED CARD OF 'privhouselaw04.CoinNames'. -/
def coinNamesCard : Claim7 := { stood := { row := coinNamesRow, standIns := [], harness := (true, "2e109445097e54cdfa14dc9a174719f5ee2562608578e8d888ccdd95fb564e18"), looks := true }, kinds := [], alts := [], laidByText := true, laidKinds := [.data, .data, .data], laidTests := true, laidLooks := .later }
def CoinNamesCardSaid : Prop := Claim7.holds Tryz.pinned (.plain (OpenSpec.ofChange coinNamesSpec)) coinNamesCard

/-- THE TIED CARD OF 'privhouselaw04.CoinCalls'. -/
def coinCallsCard : Claim7 := { stood := { row := coinCallsRow, standIns := [], harness := (true, "2e109445097e54cdfa14dc9a174719f5ee2562608578e8d888ccdd95fb564e18"), looks := true }, kinds := [], alts := [], laidByText := true, laidKinds := [.data, .data, .data], laidTests := true, laidLooks := .later }
def CoinCallsCardSaid : Prop := Claim7.holds Tryz.pinned (.plain (OpenSpec.ofChange coinCallsSpec)) coinCallsCard

/-- THE TIED CARD OF 'privhouselaw04.CoinCounts'. -/
def coinCountsCard : Claim7 := { stood := { row := coinCountsRow, standIns := [], harness := (true, "2e109445097e54cdfa14dc9a174719f5ee2562608578e8d888ccdd95fb564e18"), looks := true }, kinds := [], alts := [], laidByText := true, laidKinds := [.data, .data, .data], laidTests := true, laidLooks := .later }
def CoinCountsCardSaid : Prop := Claim7.holds Tryz.pinned (.plain (OpenSpec.ofChange coinCountsSpec)) coinCountsCard

/-- THE TIED CARD OF 'privhouselaw04.CoinLonger'. -/
def coinLongerCard : Claim7 := { stood := { row := coinLongerRow, standIns := [], harness := (true, "2e109445097e54cdfa14dc9a174719f5ee2562608578e8d888ccdd95fb564e18"), looks := true }, kinds := [], alts := [], laidByText := true, laidKinds := [.data, .data, .data], laidTests := true, laidLooks := .later }
def CoinLongerCardSaid : Prop := Claim7.holds Tryz.pinned (.plain (OpenSpec.ofChange coinLongerSpec)) coinLongerCard

/-- THE TIED CARD OF 'privhouselaw04.CoinNear'. -/
def coinNearCard : Claim7 := { stood := { row := coinNearRow, standIns := [], harness := (true, "2e109445097e54cdfa14dc9a174719f5ee2562608578e8d888ccdd95fb564e18"), looks := true }, kinds := [], alts := [], laidByText := true, laidKinds := [.data, .data, .data], laidTests := true, laidLooks := .later }
def CoinNearCardSaid : Prop := Claim7.holds Tryz.pinned (.plain (OpenSpec.ofChange coinNearSpec)) coinNearCard

/-- THE SECOND FORM's CARD OF 'privhouselaw02.RatOnes'. -/
def ratOnesUptoCard : Claim7 := { stood := { row := ratOnesUptoRow, standIns := [], harness := (true, "2e109445097e54cdfa14dc9a174719f5ee2562608578e8d888ccdd95fb564e18"), looks := true }, kinds := [], alts := [], laidByText := true, laidKinds := [.data, .data, .data], laidTests := true, laidLooks := .later }
def RatOnesUptoCardSaid : Prop := Claim7.holds Tryz.pinned (.plain (OpenSpec.upto ratOnesSpec)) ratOnesUptoCard

/-- THE SECOND FORM's CARD OF 'privhouselaw03.BitsNames'. -/
def bitsNamesUptoCard : Claim7 := { stood := { row := bitsNamesUptoRow, standIns := [], harness := (true, "2e109445097e54cdfa14dc9a174719f5ee2562608578e8d888ccdd95fb564e18"), looks := true }, kinds := [], alts := [], laidByText := true, laidKinds := [.data, .data, .data, .sentinel, .sentinel], laidTests := true, laidLooks := .later }
def BitsNamesUptoCardSaid : Prop := Claim7.holds Tryz.pinned (.plain (OpenSpec.upto bitsNamesSpec)) bitsNamesUptoCard

/-- THE SECOND FORM's CARD OF 'privhouselaw03.BitsCalls'. -/
def bitsCallsUptoCard : Claim7 := { stood := { row := bitsCallsUptoRow, standIns := [], harness := (true, "2e109445097e54cdfa14dc9a174719f5ee2562608578e8d888ccdd95fb564e18"), looks := true }, kinds := [], alts := [], laidByText := true, laidKinds := [.data, .data, .data, .sentinel, .sentinel], laidTests := true, laidLooks := .later }
def BitsCallsUptoCardSaid : Prop := Claim7.holds Tryz.pinned (.plain (OpenSpec.upto bitsCallsSpec)) bitsCallsUptoCard

/-- THE SECOND FORM's CARD OF 'privhouselaw03.BitsAll'. -/
def bitsAllUptoCard : Claim7 := { stood := { row := bitsAllUptoRow, standIns := [], harness := (true, "2e109445097e54cdfa14dc9a174719f5ee2562608578e8d888ccdd95fb564e18"), looks := true }, kinds := [], alts := [], laidByText := true, laidKinds := [.data, .data, .data], laidTests := true, laidLooks := .later }
def BitsAllUptoCardSaid : Prop := Claim7.holds Tryz.pinned (.plain (OpenSpec.upto bitsAllSpec)) bitsAllUptoCard

/-- THE SECOND FORM's CARD OF 'privhouselaw03.BitsHalves'. -/
def bitsHalvesUptoCard : Claim7 := { stood := { row := bitsHalvesUptoRow, standIns := [], harness := (true, "2e109445097e54cdfa14dc9a174719f5ee2562608578e8d888ccdd95fb564e18"), looks := true }, kinds := [], alts := [], laidByText := true, laidKinds := [.data, .data, .data], laidTests := true, laidLooks := .later }
def BitsHalvesUptoCardSaid : Prop := Claim7.holds Tryz.pinned (.plain (OpenSpec.upto bitsHalvesSpec)) bitsHalvesUptoCard

/-- THE SECOND FORM's CARD OF 'privhouselaw03.BitsBack'. -/
def bitsBackUptoCard : Claim7 := { stood := { row := bitsBackUptoRow, standIns := [], harness := (true, "2e109445097e54cdfa14dc9a174719f5ee2562608578e8d888ccdd95fb564e18"), looks := true }, kinds := [], alts := [], laidByText := true, laidKinds := [.data, .data, .data, .sentinel, .sentinel], laidTests := true, laidLooks := .later }
def BitsBackUptoCardSaid : Prop := Claim7.holds Tryz.pinned (.plain (OpenSpec.upto bitsBackSpec)) bitsBackUptoCard

/-- THE SECOND FORM's CARD OF 'privhouselaw03.BitsPieces'. -/
def bitsPiecesUptoCard : Claim7 := { stood := { row := bitsPiecesUptoRow, standIns := [], harness := (true, "2e109445097e54cdfa14dc9a174719f5ee2562608578e8d888ccdd95fb564e18"), looks := true }, kinds := [], alts := [], laidByText := true, laidKinds := [.data, .data, .data], laidTests := true, laidLooks := .later }
def BitsPiecesUptoCardSaid : Prop := Claim7.holds Tryz.pinned (.plain (OpenSpec.upto bitsPiecesSpec)) bitsPiecesUptoCard

/-- THE SECOND FORM's CARD OF 'privhouselaw04.CoinNames'. -/
def coinNamesUptoCard : Claim7 := { stood := { row := coinNamesUptoRow, standIns := [], harness := (true, "2e109445097e54cdfa14dc9a174719f5ee2562608578e8d888ccdd95fb564e18"), looks := true }, kinds := [], alts := [], laidByText := true, laidKinds := [.data, .data, .data], laidTests := true, laidLooks := .later }
def CoinNamesUptoCardSaid : Prop := Claim7.holds Tryz.pinned (.plain (OpenSpec.upto coinNamesSpec)) coinNamesUptoCard

/-- THE SECOND FORM's CARD OF 'privhouselaw04.CoinCalls'. -/
def coinCallsUptoCard : Claim7 := { stood := { row := coinCallsUptoRow, standIns := [], harness := (true, "2e109445097e54cdfa14dc9a174719f5ee2562608578e8d888ccdd95fb564e18"), looks := true }, kinds := [], alts := [], laidByText := true, laidKinds := [.data, .data, .data], laidTests := true, laidLooks := .later }
def CoinCallsUptoCardSaid : Prop := Claim7.holds Tryz.pinned (.plain (OpenSpec.upto coinCallsSpec)) coinCallsUptoCard

/-- THE SECOND FORM's CARD OF 'privhouselaw04.CoinCounts'. -/
def coinCountsUptoCard : Claim7 := { stood := { row := coinCountsUptoRow, standIns := [], harness := (true, "2e109445097e54cdfa14dc9a174719f5ee2562608578e8d888ccdd95fb564e18"), looks := true }, kinds := [], alts := [], laidByText := true, laidKinds := [.data, .data, .data], laidTests := true, laidLooks := .later }
def CoinCountsUptoCardSaid : Prop := Claim7.holds Tryz.pinned (.plain (OpenSpec.upto coinCountsSpec)) coinCountsUptoCard

/-- THE SECOND FORM's CARD OF 'privhouselaw04.CoinLonger'. -/
def coinLongerUptoCard : Claim7 := { stood := { row := coinLongerUptoRow, standIns := [], harness := (true, "2e109445097e54cdfa14dc9a174719f5ee2562608578e8d888ccdd95fb564e18"), looks := true }, kinds := [], alts := [], laidByText := true, laidKinds := [.data, .data, .data], laidTests := true, laidLooks := .later }
def CoinLongerUptoCardSaid : Prop := Claim7.holds Tryz.pinned (.plain (OpenSpec.upto coinLongerSpec)) coinLongerUptoCard

/-- THE SECOND FORM's CARD OF 'privhouselaw04.CoinNear'. -/
def coinNearUptoCard : Claim7 := { stood := { row := coinNearUptoRow, standIns := [], harness := (true, "2e109445097e54cdfa14dc9a174719f5ee2562608578e8d888ccdd95fb564e18"), looks := true }, kinds := [], alts := [], laidByText := true, laidKinds := [.data, .data, .data], laidTests := true, laidLooks := .later }
def CoinNearUptoCardSaid : Prop := Claim7.holds Tryz.pinned (.plain (OpenSpec.upto coinNearSpec)) coinNearUptoCard
end Rows
end Go.Proofs.YtgeohcpmoleocaaGreatDoor
