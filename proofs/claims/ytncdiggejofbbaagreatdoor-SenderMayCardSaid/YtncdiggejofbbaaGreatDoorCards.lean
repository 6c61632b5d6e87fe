/-
  DERIVED. GIVEN WITH THE SEED: THE CARDS: each row of YtncdiggejofbbaaGreatDoorRows.lean that lists a variable, with what it lists TIED to the program's text (the seventh form; the later family's looks); each row that meets fmt, with fmt's text TOLD by the authors' own Lean function (tested against real Go, not proved from fmt's source: count such statements apart). THE CARD IS WHAT COUNTS. Prove the row's statement (the work); the ties are given (YtncdiggejofbbaaGreatDoorTie.lean); close each card by the builder's one call (the guide's Derived/Test/ToyasCard.lean, 'card_holds'). Laid BY PROGRAM, IN A SANDBOX (cutbox-door.mjs). By AI agents, Wed Nov 11 2026. No macro, syntax, notation, axiom, sorry.
-/
import Derived.Test.YtncdiggejofbbaaGreatDoorRows
import GoSem.ClaimSeven
namespace Go.Proofs.YtncdiggejofbbaaGreatDoor
namespace Rows

/-- THE TIED CARD OF 'hourglasslaw26.SenderMay'. -/
def senderMayCard : Claim7 := { stood := { row := senderMayRow, standIns := [], harness := (true, "311c59d0b534aab9f1316125e0c009676f49dc60520bbcedc9c91ba06c7f83b6"), looks := false }, kinds := [], alts := [], laidByText := true, laidKinds := [.data, .data, .data, .data], laidTests := true, laidLooks := .later }
def SenderMayCardSaid : Prop := Claim7.holds Tryz.pinned (.plain (OpenSpec.ofChange senderMaySpec)) senderMayCard

/-- THE SECOND FORM's CARD OF 'hourglasslaw26.SenderMay'. -/
def senderMayUptoCard : Claim7 := { stood := { row := senderMayUptoRow, standIns := [], harness := (true, "311c59d0b534aab9f1316125e0c009676f49dc60520bbcedc9c91ba06c7f83b6"), looks := false }, kinds := [], alts := [], laidByText := true, laidKinds := [.data, .data, .data, .data], laidTests := true, laidLooks := .later }
def SenderMayUptoCardSaid : Prop := Claim7.holds Tryz.pinned (.plain (OpenSpec.upto senderMaySpec)) senderMayUptoCard
end Rows
end Go.Proofs.YtncdiggejofbbaaGreatDoor
