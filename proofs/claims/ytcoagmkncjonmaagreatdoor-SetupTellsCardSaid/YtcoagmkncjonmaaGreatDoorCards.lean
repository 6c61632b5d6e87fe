/-
  DERIVED. GIVEN WITH THE SEED: THE CARDS: each row of YtcoagmkncjonmaaGreatDoorRows.lean that lists a variable, with what it lists TIED to the program's text (the seventh form; the later family's looks); each row that meets fmt, with fmt's text TOLD by the authors' own Lean function (tested against real Go, not proved from fmt's source: count such statements apart). THE CARD IS WHAT COUNTS. Prove the row's statement (the work); the ties are given (YtcoagmkncjonmaaGreatDoorTie.lean); close each card by the builder's one call (the guide's Derived/Test/ToyasCard.lean, 'card_holds'). Laid BY PROGRAM, IN A SANDBOX (cutbox-door.mjs). By AI agents, Wed Nov 11 2026. No macro, syntax, notation, axiom, sorry.
-/
import Derived.Test.YtcoagmkncjonmaaGreatDoorRows
import GoSem.ClaimSeven
namespace Go.Proofs.YtcoagmkncjonmaaGreatDoor
namespace Rows

/-- THE TIED CARD OF 'hourglasslaw29.SetupTells'. -/
def setupTellsCard : Claim7 := { stood := { row := setupTellsRow, standIns := [], harness := (true, "78837c25fff708e9c30e04607f89d102b31407b7c6d38df9d0fea2db027b1a6d"), looks := true }, kinds := [], alts := [], laidByText := true, laidKinds := [.data, .data, .data, .data, .sentinel, .sentinel, .pinned], laidTests := true, laidLooks := .later }
def SetupTellsCardSaid : Prop := Claim7.holds Tryz.pinned (.plain (OpenSpec.ofChange setupTellsSpec)) setupTellsCard

/-- THE TIED CARD OF 'hourglasslaw29.SetupOrder'. -/
def setupOrderCard : Claim7 := { stood := { row := setupOrderRow, standIns := [], harness := (true, "78837c25fff708e9c30e04607f89d102b31407b7c6d38df9d0fea2db027b1a6d"), looks := true }, kinds := [], alts := [], laidByText := true, laidKinds := [.data, .data, .data, .data, .sentinel, .sentinel, .pinned], laidTests := true, laidLooks := .later }
def SetupOrderCardSaid : Prop := Claim7.holds Tryz.pinned (.plain (OpenSpec.ofChange setupOrderSpec)) setupOrderCard

/-- THE SECOND FORM's CARD OF 'hourglasslaw29.SetupTells'. -/
def setupTellsUptoCard : Claim7 := { stood := { row := setupTellsUptoRow, standIns := [], harness := (true, "78837c25fff708e9c30e04607f89d102b31407b7c6d38df9d0fea2db027b1a6d"), looks := true }, kinds := [], alts := [], laidByText := true, laidKinds := [.data, .data, .data, .data, .sentinel, .sentinel, .pinned], laidTests := true, laidLooks := .later }
def SetupTellsUptoCardSaid : Prop := Claim7.holds Tryz.pinned (.plain (OpenSpec.upto setupTellsSpec)) setupTellsUptoCard

/-- THE SECOND FORM's CARD OF 'hourglasslaw29.SetupOrder'. -/
def setupOrderUptoCard : Claim7 := { stood := { row := setupOrderUptoRow, standIns := [], harness := (true, "78837c25fff708e9c30e04607f89d102b31407b7c6d38df9d0fea2db027b1a6d"), looks := true }, kinds := [], alts := [], laidByText := true, laidKinds := [.data, .data, .data, .data, .sentinel, .sentinel, .pinned], laidTests := true, laidLooks := .later }
def SetupOrderUptoCardSaid : Prop := Claim7.holds Tryz.pinned (.plain (OpenSpec.upto setupOrderSpec)) setupOrderUptoCard
end Rows
end Go.Proofs.YtcoagmkncjonmaaGreatDoor
