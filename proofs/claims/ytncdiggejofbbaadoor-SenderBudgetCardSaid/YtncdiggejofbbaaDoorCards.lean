/-
  DERIVED. GIVEN WITH THE SEED: THE CARDS: each row of YtncdiggejofbbaaDoorRows.lean that lists a variable, with what it lists TIED to the program's text (the seventh form; the later family's looks); each row that meets fmt, with fmt's text TOLD by the authors' own Lean function (tested against real Go, not proved from fmt's source: count such statements apart). THE CARD IS WHAT COUNTS. Prove the row's statement (the work); the ties are given (YtncdiggejofbbaaDoorTie.lean); close each card by the builder's one call (the guide's Derived/Test/ToyasCard.lean, 'card_holds'). Laid BY PROGRAM, IN A SANDBOX (cutbox-door.mjs). By AI agents, Wed Nov 11 2026. No macro, syntax, notation, axiom, sorry.
-/
import Derived.Test.YtncdiggejofbbaaDoorRows
import GoSem.ClaimSeven
namespace Go.Proofs.YtncdiggejofbbaaDoor
namespace Rows

/-- THE TIED CARD OF 'hourglasslaw26.SenderSends'. -/
def senderSendsCard : Claim7 := { stood := { row := senderSendsRow, standIns := [], harness := (true, "b251d9abb9439bc6e9eda3a714833821aaf5c851279c8e8657d1fc5956243baf"), looks := false }, kinds := [], alts := [], laidByText := true, laidKinds := [.data, .data, .data], laidTests := true, laidLooks := .later }
def SenderSendsCardSaid : Prop := Claim7.holds Tryd.pinned (.plain (OpenSpec.ofChange senderSendsSpec)) senderSendsCard

/-- THE TIED CARD OF 'hourglasslaw26.SenderFails'. -/
def senderFailsCard : Claim7 := { stood := { row := senderFailsRow, standIns := [], harness := (true, "b251d9abb9439bc6e9eda3a714833821aaf5c851279c8e8657d1fc5956243baf"), looks := false }, kinds := [], alts := [], laidByText := true, laidKinds := [.data, .data, .data], laidTests := true, laidLooks := .later }
def SenderFailsCardSaid : Prop := Claim7.holds Tryd.pinned (.plain (OpenSpec.ofChange senderFailsSpec)) senderFailsCard

/-- THE TIED CARD OF 'hourglasslaw26.SenderTells'. -/
def senderTellsCard : Claim7 := { stood := { row := senderTellsRow, standIns := [], harness := (true, "b251d9abb9439bc6e9eda3a714833821aaf5c851279c8e8657d1fc5956243baf"), looks := false }, kinds := [], alts := [], laidByText := true, laidKinds := [.data, .data, .data], laidTests := true, laidLooks := .later }
def SenderTellsCardSaid : Prop := Claim7.holds Tryd.pinned (.plain (OpenSpec.ofChange senderTellsSpec)) senderTellsCard

/-- THE TIED CARD OF 'hourglasslaw26.SenderBudget'. -/
def senderBudgetCard : Claim7 := { stood := { row := senderBudgetRow, standIns := [], harness := (true, "b251d9abb9439bc6e9eda3a714833821aaf5c851279c8e8657d1fc5956243baf"), looks := false }, kinds := [], alts := [], laidByText := true, laidKinds := [.data, .data, .data], laidTests := true, laidLooks := .later }
def SenderBudgetCardSaid : Prop := Claim7.holds Tryd.pinned (.plain (OpenSpec.ofChange senderBudgetSpec)) senderBudgetCard

/-- THE TIED CARD OF 'hourglasslaw26.SenderRoots'. -/
def senderRootsCard : Claim7 := { stood := { row := senderRootsRow, standIns := [], harness := (true, "b251d9abb9439bc6e9eda3a714833821aaf5c851279c8e8657d1fc5956243baf"), looks := false }, kinds := [], alts := [], laidByText := true, laidKinds := [.data, .data, .data], laidTests := true, laidLooks := .later }
def SenderRootsCardSaid : Prop := Claim7.holds Tryd.pinned (.plain (OpenSpec.ofChange senderRootsSpec)) senderRootsCard

/-- THE SECOND FORM's CARD OF 'hourglasslaw26.SenderSends'. -/
def senderSendsUptoCard : Claim7 := { stood := { row := senderSendsUptoRow, standIns := [], harness := (true, "b251d9abb9439bc6e9eda3a714833821aaf5c851279c8e8657d1fc5956243baf"), looks := false }, kinds := [], alts := [], laidByText := true, laidKinds := [.data, .data, .data], laidTests := true, laidLooks := .later }
def SenderSendsUptoCardSaid : Prop := Claim7.holds Tryd.pinned (.plain (OpenSpec.upto senderSendsSpec)) senderSendsUptoCard

/-- THE SECOND FORM's CARD OF 'hourglasslaw26.SenderFails'. -/
def senderFailsUptoCard : Claim7 := { stood := { row := senderFailsUptoRow, standIns := [], harness := (true, "b251d9abb9439bc6e9eda3a714833821aaf5c851279c8e8657d1fc5956243baf"), looks := false }, kinds := [], alts := [], laidByText := true, laidKinds := [.data, .data, .data], laidTests := true, laidLooks := .later }
def SenderFailsUptoCardSaid : Prop := Claim7.holds Tryd.pinned (.plain (OpenSpec.upto senderFailsSpec)) senderFailsUptoCard

/-- THE SECOND FORM's CARD OF 'hourglasslaw26.SenderTells'. -/
def senderTellsUptoCard : Claim7 := { stood := { row := senderTellsUptoRow, standIns := [], harness := (true, "b251d9abb9439bc6e9eda3a714833821aaf5c851279c8e8657d1fc5956243baf"), looks := false }, kinds := [], alts := [], laidByText := true, laidKinds := [.data, .data, .data], laidTests := true, laidLooks := .later }
def SenderTellsUptoCardSaid : Prop := Claim7.holds Tryd.pinned (.plain (OpenSpec.upto senderTellsSpec)) senderTellsUptoCard

/-- THE SECOND FORM's CARD OF 'hourglasslaw26.SenderBudget'. -/
def senderBudgetUptoCard : Claim7 := { stood := { row := senderBudgetUptoRow, standIns := [], harness := (true, "b251d9abb9439bc6e9eda3a714833821aaf5c851279c8e8657d1fc5956243baf"), looks := false }, kinds := [], alts := [], laidByText := true, laidKinds := [.data, .data, .data], laidTests := true, laidLooks := .later }
def SenderBudgetUptoCardSaid : Prop := Claim7.holds Tryd.pinned (.plain (OpenSpec.upto senderBudgetSpec)) senderBudgetUptoCard

/-- THE SECOND FORM's CARD OF 'hourglasslaw26.SenderRoots'. -/
def senderRootsUptoCard : Claim7 := { stood := { row := senderRootsUptoRow, standIns := [], harness := (true, "b251d9abb9439bc6e9eda3a714833821aaf5c851279c8e8657d1fc5956243baf"), looks := false }, kinds := [], alts := [], laidByText := true, laidKinds := [.data, .data, .data], laidTests := true, laidLooks := .later }
def SenderRootsUptoCardSaid : Prop := Claim7.holds Tryd.pinned (.plain (OpenSpec.upto senderRootsSpec)) senderRootsUptoCard
end Rows
end Go.Proofs.YtncdiggejofbbaaDoor
