/-
  DERIVED. GIVEN WITH THE SEED: THE CARDS: each row of YtpgfaklnbehmhaaDoorRows.lean that lists a variable, with what it lists TIED to the program's text (the seventh form; the later family's looks); each row that meets fmt, with fmt's text TOLD by the authors' own Lean function (tested against real Go, not proved from fmt's source: count such statements apart). THE CARD IS WHAT COUNTS. Prove the row's statement (the work); the ties are given (YtpgfaklnbehmhaaDoorTie.lean); close each card by the builder's one call (the guide's Derived/Test/ToyasCard.lean, 'card_holds'). Laid BY PROGRAM, IN A SANDBOX (cutbox-door.mjs). By AI agents, Wed Nov 11 2026. No macro, syntax, notation, axiom, sorry.
-/
import Derived.Test.YtpgfaklnbehmhaaDoorRows
import GoSem.ClaimSeven
namespace Go.Proofs.YtpgfaklnbehmhaaDoor
namespace Rows

/-- THE TIED CARD OF 'hourglasslaw08.PacketTells'. -/
def packetTellsCard : Claim7 := { stood := { row := packetTellsRow, standIns := [], harness := (true, "3de5d53e0b7c6f3337007352cfbcdf50bdc52611f5e86b93a89db492de7e275d"), looks := false }, kinds := [], alts := [], laidByText := true, laidKinds := [.data], laidTests := true, laidLooks := .later }
def PacketTellsCardSaid : Prop := Claim7.holds Tryd.pinned (.plain (OpenSpec.ofChange packetTellsSpec)) packetTellsCard

/-- THE TIED CARD OF 'hourglasslaw08.PacketOnce'. -/
def packetOnceCard : Claim7 := { stood := { row := packetOnceRow, standIns := [], harness := (true, "3de5d53e0b7c6f3337007352cfbcdf50bdc52611f5e86b93a89db492de7e275d"), looks := false }, kinds := [], alts := [], laidByText := true, laidKinds := [.data], laidTests := true, laidLooks := .later }
def PacketOnceCardSaid : Prop := Claim7.holds Tryd.pinned (.plain (OpenSpec.ofChange packetOnceSpec)) packetOnceCard

/-- THE TIED CARD OF 'hourglasslaw08.PacketFinds'. -/
def packetFindsCard : Claim7 := { stood := { row := packetFindsRow, standIns := [], harness := (true, "3de5d53e0b7c6f3337007352cfbcdf50bdc52611f5e86b93a89db492de7e275d"), looks := false }, kinds := [], alts := [], laidByText := true, laidKinds := [.data], laidTests := true, laidLooks := .later }
def PacketFindsCardSaid : Prop := Claim7.holds Tryd.pinned (.plain (OpenSpec.ofChange packetFindsSpec)) packetFindsCard

/-- THE SECOND FORM's CARD OF 'hourglasslaw08.PacketTells'. -/
def packetTellsUptoCard : Claim7 := { stood := { row := packetTellsUptoRow, standIns := [], harness := (true, "3de5d53e0b7c6f3337007352cfbcdf50bdc52611f5e86b93a89db492de7e275d"), looks := false }, kinds := [], alts := [], laidByText := true, laidKinds := [.data], laidTests := true, laidLooks := .later }
def PacketTellsUptoCardSaid : Prop := Claim7.holds Tryd.pinned (.plain (OpenSpec.upto packetTellsSpec)) packetTellsUptoCard

/-- THE SECOND FORM's CARD OF 'hourglasslaw08.PacketOnce'. -/
def packetOnceUptoCard : Claim7 := { stood := { row := packetOnceUptoRow, standIns := [], harness := (true, "3de5d53e0b7c6f3337007352cfbcdf50bdc52611f5e86b93a89db492de7e275d"), looks := false }, kinds := [], alts := [], laidByText := true, laidKinds := [.data], laidTests := true, laidLooks := .later }
def PacketOnceUptoCardSaid : Prop := Claim7.holds Tryd.pinned (.plain (OpenSpec.upto packetOnceSpec)) packetOnceUptoCard

/-- THE SECOND FORM's CARD OF 'hourglasslaw08.PacketFinds'. -/
def packetFindsUptoCard : Claim7 := { stood := { row := packetFindsUptoRow, standIns := [], harness := (true, "3de5d53e0b7c6f3337007352cfbcdf50bdc52611f5e86b93a89db492de7e275d"), looks := false }, kinds := [], alts := [], laidByText := true, laidKinds := [.data], laidTests := true, laidLooks := .later }
def PacketFindsUptoCardSaid : Prop := Claim7.holds Tryd.pinned (.plain (OpenSpec.upto packetFindsSpec)) packetFindsUptoCard
end Rows
end Go.Proofs.YtpgfaklnbehmhaaDoor
