/-
  DERIVED. GIVEN WITH THE SEED: THE CARDS: each row of YtiocehlefpbbhaaGreatDoorRows.lean that lists a variable, with what it lists TIED to the program's text (the seventh form; the later family's looks); each row that meets fmt, with fmt's text TOLD by the authors' own Lean function (tested against real Go, not proved from fmt's source: count such statements apart). THE CARD IS WHAT COUNTS. Prove the row's statement (the work); the ties are given (YtiocehlefpbbhaaGreatDoorTie.lean); close each card by the builder's one call (the guide's Derived/Test/ToyasCard.lean, 'card_holds'). Laid BY PROGRAM, IN A SANDBOX (cutbox-door.mjs). By AI agents, Wed Nov 11 2026. No macro, syntax, notation, axiom, sorry.
-/
import Derived.Test.YtiocehlefpbbhaaGreatDoorRows
import GoSem.ClaimSeven
namespace Go.Proofs.YtiocehlefpbbhaaGreatDoor
namespace Rows

/-- THE TIED CARD OF 'privhouselaw01.NatCalls'. -/
def natCallsCard : Claim7 := { stood := { row := natCallsRow, standIns := [], harness := (true, "936eb1efd8242265a4be00083f9d468b43e331149acc54d48339ea9386fd4092"), looks := true }, kinds := [], alts := [], laidByText := true, laidKinds := [.data, .data, .data, .sentinel, .sentinel], laidTests := true, laidLooks := .later }
def NatCallsCardSaid : Prop := Claim7.holds Tryz.pinned (.plain (OpenSpec.ofChange natCallsSpec)) natCallsCard

/-- THE SECOND FORM's CARD OF 'privhouselaw01.NatCalls'. -/
def natCallsUptoCard : Claim7 := { stood := { row := natCallsUptoRow, standIns := [], harness := (true, "936eb1efd8242265a4be00083f9d468b43e331149acc54d48339ea9386fd4092"), looks := true }, kinds := [], alts := [], laidByText := true, laidKinds := [.data, .data, .data, .sentinel, .sentinel], laidTests := true, laidLooks := .later }
def NatCallsUptoCardSaid : Prop := Claim7.holds Tryz.pinned (.plain (OpenSpec.upto natCallsSpec)) natCallsUptoCard
end Rows
end Go.Proofs.YtiocehlefpbbhaaGreatDoor
