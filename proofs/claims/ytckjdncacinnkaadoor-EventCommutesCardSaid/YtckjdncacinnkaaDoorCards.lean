/-
  DERIVED. GIVEN WITH THE SEED: THE CARDS: each row of YtckjdncacinnkaaDoorRows.lean that lists a variable, with what it lists TIED to the program's text (the seventh form; the later family's looks); each row that meets fmt, with fmt's text TOLD by the authors' own Lean function (tested against real Go, not proved from fmt's source: count such statements apart). THE CARD IS WHAT COUNTS. Prove the row's statement (the work); the ties are given (YtckjdncacinnkaaDoorTie.lean); close each card by the builder's one call (the guide's Derived/Test/ToyasCard.lean, 'card_holds'). Laid BY PROGRAM, IN A SANDBOX (cutbox-door.mjs). By AI agents, Wed Nov 11 2026. No macro, syntax, notation, axiom, sorry.
-/
import Derived.Test.YtckjdncacinnkaaDoorRows
import GoSem.ClaimSeven
namespace Go.Proofs.YtckjdncacinnkaaDoor
namespace Rows

/-- THE TIED CARD OF 'hourglasslaw25.EventTells'. -/
def eventTellsCard : Claim7 := { stood := { row := eventTellsRow, standIns := [], harness := (true, "c9ae840c5bee0655d82bf00673e9e90e2336a453755d5fe518a227d284eacd73"), looks := false }, kinds := [], alts := [], laidByText := true, laidKinds := [.data, .data, .data], laidTests := true, laidLooks := .later }
def EventTellsCardSaid : Prop := Claim7.holds Tryd.pinned (.plain (OpenSpec.ofChange eventTellsSpec)) eventTellsCard

/-- THE TIED CARD OF 'hourglasslaw25.EventKinds'. -/
def eventKindsCard : Claim7 := { stood := { row := eventKindsRow, standIns := [], harness := (true, "c9ae840c5bee0655d82bf00673e9e90e2336a453755d5fe518a227d284eacd73"), looks := false }, kinds := [], alts := [], laidByText := true, laidKinds := [.data, .data, .data], laidTests := true, laidLooks := .later }
def EventKindsCardSaid : Prop := Claim7.holds Tryd.pinned (.plain (OpenSpec.ofChange eventKindsSpec)) eventKindsCard

/-- THE TIED CARD OF 'hourglasslaw25.EventBelow'. -/
def eventBelowCard : Claim7 := { stood := { row := eventBelowRow, standIns := [], harness := (true, "c9ae840c5bee0655d82bf00673e9e90e2336a453755d5fe518a227d284eacd73"), looks := false }, kinds := [], alts := [], laidByText := true, laidKinds := [.data, .data, .data], laidTests := true, laidLooks := .later }
def EventBelowCardSaid : Prop := Claim7.holds Tryd.pinned (.plain (OpenSpec.ofChange eventBelowSpec)) eventBelowCard

/-- THE TIED CARD OF 'hourglasslaw25.EventCommutes'. -/
def eventCommutesCard : Claim7 := { stood := { row := eventCommutesRow, standIns := [], harness := (true, "c9ae840c5bee0655d82bf00673e9e90e2336a453755d5fe518a227d284eacd73"), looks := false }, kinds := [], alts := [], laidByText := true, laidKinds := [.data, .data, .data], laidTests := true, laidLooks := .later }
def EventCommutesCardSaid : Prop := Claim7.holds Tryd.pinned (.plain (OpenSpec.ofChange eventCommutesSpec)) eventCommutesCard

/-- THE SECOND FORM's CARD OF 'hourglasslaw25.EventTells'. -/
def eventTellsUptoCard : Claim7 := { stood := { row := eventTellsUptoRow, standIns := [], harness := (true, "c9ae840c5bee0655d82bf00673e9e90e2336a453755d5fe518a227d284eacd73"), looks := false }, kinds := [], alts := [], laidByText := true, laidKinds := [.data, .data, .data], laidTests := true, laidLooks := .later }
def EventTellsUptoCardSaid : Prop := Claim7.holds Tryd.pinned (.plain (OpenSpec.upto eventTellsSpec)) eventTellsUptoCard

/-- THE SECOND FORM's CARD OF 'hourglasslaw25.EventKinds'. -/
def eventKindsUptoCard : Claim7 := { stood := { row := eventKindsUptoRow, standIns := [], harness := (true, "c9ae840c5bee0655d82bf00673e9e90e2336a453755d5fe518a227d284eacd73"), looks := false }, kinds := [], alts := [], laidByText := true, laidKinds := [.data, .data, .data], laidTests := true, laidLooks := .later }
def EventKindsUptoCardSaid : Prop := Claim7.holds Tryd.pinned (.plain (OpenSpec.upto eventKindsSpec)) eventKindsUptoCard

/-- THE SECOND FORM's CARD OF 'hourglasslaw25.EventBelow'. -/
def eventBelowUptoCard : Claim7 := { stood := { row := eventBelowUptoRow, standIns := [], harness := (true, "c9ae840c5bee0655d82bf00673e9e90e2336a453755d5fe518a227d284eacd73"), looks := false }, kinds := [], alts := [], laidByText := true, laidKinds := [.data, .data, .data], laidTests := true, laidLooks := .later }
def EventBelowUptoCardSaid : Prop := Claim7.holds Tryd.pinned (.plain (OpenSpec.upto eventBelowSpec)) eventBelowUptoCard

/-- THE SECOND FORM's CARD OF 'hourglasslaw25.EventCommutes'. -/
def eventCommutesUptoCard : Claim7 := { stood := { row := eventCommutesUptoRow, standIns := [], harness := (true, "c9ae840c5bee0655d82bf00673e9e90e2336a453755d5fe518a227d284eacd73"), looks := false }, kinds := [], alts := [], laidByText := true, laidKinds := [.data, .data, .data], laidTests := true, laidLooks := .later }
def EventCommutesUptoCardSaid : Prop := Claim7.holds Tryd.pinned (.plain (OpenSpec.upto eventCommutesSpec)) eventCommutesUptoCard
end Rows
end Go.Proofs.YtckjdncacinnkaaDoor
