/-
  DERIVED. GIVEN WITH THE SEED: THE CARDS: each row of YtcoagmkncjonmaaDoorRows.lean that lists a variable, with what it lists TIED to the program's text (the seventh form; the later family's looks); each row that meets fmt, with fmt's text TOLD by the authors' own Lean function (tested against real Go, not proved from fmt's source: count such statements apart). THE CARD IS WHAT COUNTS. Prove the row's statement (the work); the ties are given (YtcoagmkncjonmaaDoorTie.lean); close each card by the builder's one call (the guide's Derived/Test/ToyasCard.lean, 'card_holds'). Laid BY PROGRAM, IN A SANDBOX (cutbox-door.mjs). By AI agents, Wed Nov 11 2026. No macro, syntax, notation, axiom, sorry.
-/
import Derived.Test.YtcoagmkncjonmaaDoorRows
import GoSem.ClaimSeven
namespace Go.Proofs.YtcoagmkncjonmaaDoor
namespace Rows

/-- THE TIED CARD OF 'hourglasslaw29.SetupBack'. -/
def setupBackCard : Claim7 := { stood := { row := setupBackRow, standIns := [], harness := (true, "6cbc9ece5943789950b87430db3bd8f77f991872add1a7911ff3ae5c432e26ec"), looks := true }, kinds := [], alts := [], laidByText := true, laidKinds := [.data, .data, .data, .data, .sentinel, .sentinel, .pinned], laidTests := true, laidLooks := .later }
def SetupBackCardSaid : Prop := Claim7.holds Tryd.pinned (.plain (OpenSpec.ofChange setupBackSpec)) setupBackCard

/-- THE SECOND FORM's CARD OF 'hourglasslaw29.SetupBack'. -/
def setupBackUptoCard : Claim7 := { stood := { row := setupBackUptoRow, standIns := [], harness := (true, "6cbc9ece5943789950b87430db3bd8f77f991872add1a7911ff3ae5c432e26ec"), looks := true }, kinds := [], alts := [], laidByText := true, laidKinds := [.data, .data, .data, .data, .sentinel, .sentinel, .pinned], laidTests := true, laidLooks := .later }
def SetupBackUptoCardSaid : Prop := Claim7.holds Tryd.pinned (.plain (OpenSpec.upto setupBackSpec)) setupBackUptoCard
end Rows
end Go.Proofs.YtcoagmkncjonmaaDoor
