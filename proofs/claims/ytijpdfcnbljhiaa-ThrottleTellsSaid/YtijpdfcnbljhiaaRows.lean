/-
  No cell of these rows narrows 'for every input' (looked for: loops, veiled, ifaces, maps, wideKeys, modest, calm, conditions, laid).
  DERIVED. THE GIVEN ROWS OF THIS SEAT. 4 by the template 'for every input the law returns true; each argument reads behind the call as it read before'; 0 by the template 'total and deterministic' (their statements: YtijpdfcnbljhiaaTotals.lean).
  GIVEN WITH THE SEED: the statements are not yours to turn. If you find one false, say at which input.
  Laid BY PROGRAM, IN A SANDBOX (cutbox-rows.mjs): the forced cells as the released guide's own fill.sh prints them over the translation 91d020a8874169fd… (all of the seat's roots in one cut). By AI agents, Wed Nov 11 2026. No macro, syntax, notation, axiom, sorry.
-/
import Derived.Test.YtijpdfcnbljhiaaChecked
import GoSem.Claim
import GoSem.ClaimJoined
import GoSem.ClaimMapViews
import Derived.JoinedTies
import Derived.KernelRfl
namespace Go.Proofs.Ytijpdfcnbljhiaa
/- THE CELL 'sum', in the pinned program and in every row, IS THE sha256 OF THE DUMP (.gsa) THAT YtijpdfcnbljhiaaProg.lean LOADS. Nothing in Lean hashes anything: it is a label: what it is worth is what the hold of that sum in a sandbox is worth. -/
noncomputable def Try.pinned : Pinned := { name := "ytijpdfcnbljhiaa", sum := "91d020a8874169fd72a5577bf46e3c6986473edff94ba42527827756d5fcb6a7", checked := Try.checked }
namespace Rows
def none {H : Type} : Left H := { results := [], args := [] }

/-- 'hourglasslaw19.ThrottleTells': WHATEVER THE INPUT: true; the input reads as it did. -/
def throttleTellsSpec : ChangeSpec := { name := "throttleTells", fn := fun _ => fun
  | [d1, d2] => { results := [.lit (.bool true)], args := [d1, d2] }
  | _ => none }
def throttleTellsRow : OpenClaim := { program := "ytijpdfcnbljhiaa", sum := "91d020a8874169fd72a5577bf46e3c6986473edff94ba42527827756d5fcb6a7", func := "hourglass/hourglasslaw19.ThrottleTells", spec := "throttleTells", apart := false }
def ThrottleTellsSaid : Prop := throttleTellsRow.holds Try.pinned (OpenSpec.ofChange throttleTellsSpec)

/-- ITS FALSE NEIGHBOUR: 'it returns false'. Refute it at one input. -/
def throttleTellsWrong : ChangeSpec := { name := "throttleTells", fn := fun _ => fun
  | [d1, d2] => { results := [.lit (.bool false)], args := [d1, d2] }
  | _ => none }
def ThrottleTellsWrongFalsely : Prop := throttleTellsRow.holds Try.pinned (OpenSpec.ofChange throttleTellsWrong)

/-- 'hourglasslaw19.ThrottleFails': WHATEVER THE INPUT: true; the input reads as it did. -/
def throttleFailsSpec : ChangeSpec := { name := "throttleFails", fn := fun _ => fun
  | [d1, d2] => { results := [.lit (.bool true)], args := [d1, d2] }
  | _ => none }
def throttleFailsRow : OpenClaim := { program := "ytijpdfcnbljhiaa", sum := "91d020a8874169fd72a5577bf46e3c6986473edff94ba42527827756d5fcb6a7", func := "hourglass/hourglasslaw19.ThrottleFails", spec := "throttleFails", apart := false }
def ThrottleFailsSaid : Prop := throttleFailsRow.holds Try.pinned (OpenSpec.ofChange throttleFailsSpec)

/-- ITS FALSE NEIGHBOUR: 'it returns false'. Refute it at one input. -/
def throttleFailsWrong : ChangeSpec := { name := "throttleFails", fn := fun _ => fun
  | [d1, d2] => { results := [.lit (.bool false)], args := [d1, d2] }
  | _ => none }
def ThrottleFailsWrongFalsely : Prop := throttleFailsRow.holds Try.pinned (OpenSpec.ofChange throttleFailsWrong)

/-- 'hourglasslaw19.ThrottlePlays': WHATEVER THE INPUT: true; the input reads as it did. -/
def throttlePlaysSpec : ChangeSpec := { name := "throttlePlays", fn := fun _ => fun
  | [d1, d2] => { results := [.lit (.bool true)], args := [d1, d2] }
  | _ => none }
def throttlePlaysRow : OpenClaim := { program := "ytijpdfcnbljhiaa", sum := "91d020a8874169fd72a5577bf46e3c6986473edff94ba42527827756d5fcb6a7", func := "hourglass/hourglasslaw19.ThrottlePlays", spec := "throttlePlays", apart := false }
def ThrottlePlaysSaid : Prop := throttlePlaysRow.holds Try.pinned (OpenSpec.ofChange throttlePlaysSpec)

/-- ITS FALSE NEIGHBOUR: 'it returns false'. Refute it at one input. -/
def throttlePlaysWrong : ChangeSpec := { name := "throttlePlays", fn := fun _ => fun
  | [d1, d2] => { results := [.lit (.bool false)], args := [d1, d2] }
  | _ => none }
def ThrottlePlaysWrongFalsely : Prop := throttlePlaysRow.holds Try.pinned (OpenSpec.ofChange throttlePlaysWrong)

/-- 'hourglasslaw19.ThrottlePays': WHATEVER THE INPUT: true; the input reads as it did. -/
def throttlePaysSpec : ChangeSpec := { name := "throttlePays", fn := fun _ => fun
  | [d1, d2] => { results := [.lit (.bool true)], args := [d1, d2] }
  | _ => none }
def throttlePaysRow : OpenClaim := { program := "ytijpdfcnbljhiaa", sum := "91d020a8874169fd72a5577bf46e3c6986473edff94ba42527827756d5fcb6a7", func := "hourglass/hourglasslaw19.ThrottlePays", spec := "throttlePays", apart := false }
def ThrottlePaysSaid : Prop := throttlePaysRow.holds Try.pinned (OpenSpec.ofChange throttlePaysSpec)

/-- ITS FALSE NEIGHBOUR: 'it returns false'. Refute it at one input. -/
def throttlePaysWrong : ChangeSpec := { name := "throttlePays", fn := fun _ => fun
  | [d1, d2] => { results := [.lit (.bool false)], args := [d1, d2] }
  | _ => none }
def ThrottlePaysWrongFalsely : Prop := throttlePaysRow.holds Try.pinned (OpenSpec.ofChange throttlePaysWrong)

/- THE SECOND FORM. 'bulk': how many values and letters a reading holds, each counted each time it is reached (what is shared counts as often as it is met; a slice's spare places count too). A statement '..UptoSaid' is the law's where the arguments, and the package variables that the reading takes, are together of bulk at most 1048576: NARROWER than '..Said'. Prove '..Said' where nothing that the law and all that it calls make is longer than what came in: it says more and counts as full. Else prove '..UptoSaid'. A law counts once. -/
mutual
def uptoBulk {H : Type} : DataW H → Nat
  | .lit (.string bytes) => bytes.length + 1
  | .lit _ => 1
  | .nil => 1
  | .ptr d => uptoBulk d + 1
  | .slice elems spare => uptoBulkAll elems + uptoBulkAll spare + 1
  | .agg parts => uptoBulkAll parts + 1
  | .iface _ d => uptoBulk d + 1
  | .map entries => uptoBulkEntries entries + 1
  | .held _ => 1
def uptoBulkAll {H : Type} : List (DataW H) → Nat
  | [] => 0
  | d :: r => uptoBulk d + uptoBulkAll r
def uptoBulkEntries {H : Type} : List (Lit × DataW H) → Nat
  | [] => 0
  | x :: r => uptoBulkEntry x + uptoBulkEntries r
def uptoBulkEntry {H : Type} : Lit × DataW H → Nat
  | (.string bytes, d) => bytes.length + uptoBulk d + 1
  | (_, d) => uptoBulk d + 1
 end
def uptoSmall : (H : Type) → List (DataW H) → Bool := fun _ ds => decide (uptoBulkAll ds ≤ 1048576)
def OpenSpec.upto (s : _root_.Go.ChangeSpec) : _root_.Go.OpenSpec := { _root_.Go.OpenSpec.ofChange s with cond := some uptoSmall }

/-- 'hourglasslaw19.ThrottleTells', WHERE WHAT IT READS IS OF BULK AT MOST 1048576: true; the input reads as it did. -/
def throttleTellsUptoRow : OpenClaim := { program := "ytijpdfcnbljhiaa", sum := "91d020a8874169fd72a5577bf46e3c6986473edff94ba42527827756d5fcb6a7", func := "hourglass/hourglasslaw19.ThrottleTells", spec := "throttleTells", apart := false, narrowed := true }
def ThrottleTellsUptoSaid : Prop := throttleTellsUptoRow.holds Try.pinned (OpenSpec.upto throttleTellsSpec)

/-- 'hourglasslaw19.ThrottleFails', WHERE WHAT IT READS IS OF BULK AT MOST 1048576: true; the input reads as it did. -/
def throttleFailsUptoRow : OpenClaim := { program := "ytijpdfcnbljhiaa", sum := "91d020a8874169fd72a5577bf46e3c6986473edff94ba42527827756d5fcb6a7", func := "hourglass/hourglasslaw19.ThrottleFails", spec := "throttleFails", apart := false, narrowed := true }
def ThrottleFailsUptoSaid : Prop := throttleFailsUptoRow.holds Try.pinned (OpenSpec.upto throttleFailsSpec)

/-- 'hourglasslaw19.ThrottlePlays', WHERE WHAT IT READS IS OF BULK AT MOST 1048576: true; the input reads as it did. -/
def throttlePlaysUptoRow : OpenClaim := { program := "ytijpdfcnbljhiaa", sum := "91d020a8874169fd72a5577bf46e3c6986473edff94ba42527827756d5fcb6a7", func := "hourglass/hourglasslaw19.ThrottlePlays", spec := "throttlePlays", apart := false, narrowed := true }
def ThrottlePlaysUptoSaid : Prop := throttlePlaysUptoRow.holds Try.pinned (OpenSpec.upto throttlePlaysSpec)

/-- 'hourglasslaw19.ThrottlePays', WHERE WHAT IT READS IS OF BULK AT MOST 1048576: true; the input reads as it did. -/
def throttlePaysUptoRow : OpenClaim := { program := "ytijpdfcnbljhiaa", sum := "91d020a8874169fd72a5577bf46e3c6986473edff94ba42527827756d5fcb6a7", func := "hourglass/hourglasslaw19.ThrottlePays", spec := "throttlePays", apart := false, narrowed := true }
def ThrottlePaysUptoSaid : Prop := throttlePaysUptoRow.holds Try.pinned (OpenSpec.upto throttlePaysSpec)

end Rows
end Go.Proofs.Ytijpdfcnbljhiaa
