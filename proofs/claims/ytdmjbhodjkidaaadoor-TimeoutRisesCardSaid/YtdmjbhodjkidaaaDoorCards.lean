/-
  DERIVED. GIVEN WITH THE SEED: THE CARDS: each row of YtdmjbhodjkidaaaDoorRows.lean that lists a variable, with what it lists TIED to the program's text (the seventh form; the later family's looks); each row that meets fmt, with fmt's text TOLD by the authors' own Lean function (tested against real Go, not proved from fmt's source: count such statements apart). THE CARD IS WHAT COUNTS. Prove the row's statement (the work); the ties are given (YtdmjbhodjkidaaaDoorTie.lean); close each card by the builder's one call (the guide's Derived/Test/ToyasCard.lean, 'card_holds'). Laid BY PROGRAM, IN A SANDBOX (cutbox-door.mjs). By AI agents, Wed Nov 11 2026. No macro, syntax, notation, axiom, sorry.
-/
import Derived.Test.YtdmjbhodjkidaaaDoorRows
import GoSem.ClaimSeven
namespace Go.Proofs.YtdmjbhodjkidaaaDoor
namespace Rows

/-- THE TIED CARD OF 'hourglasslaw02.TimeoutTells'. -/
def timeoutTellsCard : Claim7 := { stood := { row := timeoutTellsRow, standIns := [], harness := (true, "6365aa1bfc0a532e44b7a20c10a6c3ac564411c78e4ede5df11aace6451eefba"), looks := false }, kinds := [], alts := [], laidByText := true, laidKinds := [.data, .data, .data], laidTests := true, laidLooks := .later }
def TimeoutTellsCardSaid : Prop := Claim7.holds Tryd.pinned (.plain (OpenSpec.ofChange timeoutTellsSpec)) timeoutTellsCard

/-- THE TIED CARD OF 'hourglasslaw02.TimeoutLess'. -/
def timeoutLessCard : Claim7 := { stood := { row := timeoutLessRow, standIns := [], harness := (true, "6365aa1bfc0a532e44b7a20c10a6c3ac564411c78e4ede5df11aace6451eefba"), looks := false }, kinds := [], alts := [], laidByText := true, laidKinds := [.data, .data, .data], laidTests := true, laidLooks := .later }
def TimeoutLessCardSaid : Prop := Claim7.holds Tryd.pinned (.plain (OpenSpec.ofChange timeoutLessSpec)) timeoutLessCard

/-- THE TIED CARD OF 'hourglasslaw02.TimeoutRises'. -/
def timeoutRisesCard : Claim7 := { stood := { row := timeoutRisesRow, standIns := [], harness := (true, "6365aa1bfc0a532e44b7a20c10a6c3ac564411c78e4ede5df11aace6451eefba"), looks := false }, kinds := [], alts := [], laidByText := true, laidKinds := [.data, .data, .data], laidTests := true, laidLooks := .later }
def TimeoutRisesCardSaid : Prop := Claim7.holds Tryd.pinned (.plain (OpenSpec.ofChange timeoutRisesSpec)) timeoutRisesCard

/-- THE SECOND FORM's CARD OF 'hourglasslaw02.TimeoutTells'. -/
def timeoutTellsUptoCard : Claim7 := { stood := { row := timeoutTellsUptoRow, standIns := [], harness := (true, "6365aa1bfc0a532e44b7a20c10a6c3ac564411c78e4ede5df11aace6451eefba"), looks := false }, kinds := [], alts := [], laidByText := true, laidKinds := [.data, .data, .data], laidTests := true, laidLooks := .later }
def TimeoutTellsUptoCardSaid : Prop := Claim7.holds Tryd.pinned (.plain (OpenSpec.upto timeoutTellsSpec)) timeoutTellsUptoCard

/-- THE SECOND FORM's CARD OF 'hourglasslaw02.TimeoutLess'. -/
def timeoutLessUptoCard : Claim7 := { stood := { row := timeoutLessUptoRow, standIns := [], harness := (true, "6365aa1bfc0a532e44b7a20c10a6c3ac564411c78e4ede5df11aace6451eefba"), looks := false }, kinds := [], alts := [], laidByText := true, laidKinds := [.data, .data, .data], laidTests := true, laidLooks := .later }
def TimeoutLessUptoCardSaid : Prop := Claim7.holds Tryd.pinned (.plain (OpenSpec.upto timeoutLessSpec)) timeoutLessUptoCard

/-- THE SECOND FORM's CARD OF 'hourglasslaw02.TimeoutRises'. -/
def timeoutRisesUptoCard : Claim7 := { stood := { row := timeoutRisesUptoRow, standIns := [], harness := (true, "6365aa1bfc0a532e44b7a20c10a6c3ac564411c78e4ede5df11aace6451eefba"), looks := false }, kinds := [], alts := [], laidByText := true, laidKinds := [.data, .data, .data], laidTests := true, laidLooks := .later }
def TimeoutRisesUptoCardSaid : Prop := Claim7.holds Tryd.pinned (.plain (OpenSpec.upto timeoutRisesSpec)) timeoutRisesUptoCard
end Rows
end Go.Proofs.YtdmjbhodjkidaaaDoor
