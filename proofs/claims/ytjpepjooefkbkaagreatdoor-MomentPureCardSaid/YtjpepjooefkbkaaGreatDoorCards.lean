/-
  DERIVED. GIVEN WITH THE SEED: THE CARDS: each row of YtjpepjooefkbkaaGreatDoorRows.lean that lists a variable, with what it lists TIED to the program's text (the seventh form; the later family's looks); each row that meets fmt, with fmt's text TOLD by the authors' own Lean function (tested against real Go, not proved from fmt's source: count such statements apart). THE CARD IS WHAT COUNTS. Prove the row's statement (the work); the ties are given (YtjpepjooefkbkaaGreatDoorTie.lean); close each card by the builder's one call (the guide's Derived/Test/ToyasCard.lean, 'card_holds'). Laid BY PROGRAM, IN A SANDBOX (cutbox-door.mjs). By AI agents, Wed Nov 11 2026. No macro, syntax, notation, axiom, sorry.
-/
import Derived.Test.YtjpepjooefkbkaaGreatDoorRows
import GoSem.ClaimSeven
namespace Go.Proofs.YtjpepjooefkbkaaGreatDoor
namespace Rows

/-- THE TIED CARD OF 'privhouselaw10.MomentPure'. -/
def momentPureCard : Claim7 := { stood := { row := momentPureRow, standIns := [], harness := (true, "b781a16771d1d5af9cf01af722522c5e7ab5694f4f139dbc391379c3c7093a06"), looks := true }, kinds := [], alts := [], laidByText := true, laidKinds := [.data, .data, .data], laidTests := true, laidLooks := .later }
def MomentPureCardSaid : Prop := Claim7.holds Tryz.pinned (.plain (OpenSpec.ofChange momentPureSpec)) momentPureCard

/-- THE SECOND FORM's CARD OF 'privhouselaw10.MomentPure'. -/
def momentPureUptoCard : Claim7 := { stood := { row := momentPureUptoRow, standIns := [], harness := (true, "b781a16771d1d5af9cf01af722522c5e7ab5694f4f139dbc391379c3c7093a06"), looks := true }, kinds := [], alts := [], laidByText := true, laidKinds := [.data, .data, .data], laidTests := true, laidLooks := .later }
def MomentPureUptoCardSaid : Prop := Claim7.holds Tryz.pinned (.plain (OpenSpec.upto momentPureSpec)) momentPureUptoCard
end Rows
end Go.Proofs.YtjpepjooefkbkaaGreatDoor
