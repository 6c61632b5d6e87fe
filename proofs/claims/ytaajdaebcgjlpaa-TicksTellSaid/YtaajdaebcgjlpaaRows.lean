/-
  No cell of these rows narrows 'for every input' (looked for: loops, veiled, ifaces, maps, wideKeys, modest, calm, conditions, laid).
  DERIVED. THE GIVEN ROWS OF THIS SEAT. 4 by the template 'for every input the law returns true; each argument reads behind the call as it read before'; 0 by the template 'total and deterministic' (their statements: YtaajdaebcgjlpaaTotals.lean).
  GIVEN WITH THE SEED: the statements are not yours to turn. If you find one false, say at which input.
  Laid BY PROGRAM, IN A SANDBOX (cutbox-rows.mjs): the forced cells as the released guide's own fill.sh prints them over the translation 7a56fd61421f7def… (all of the seat's roots in one cut). By AI agents, Wed Nov 11 2026. No macro, syntax, notation, axiom, sorry.
-/
import Derived.Test.YtaajdaebcgjlpaaChecked
import GoSem.Claim
import GoSem.ClaimJoined
import GoSem.ClaimMapViews
import Derived.JoinedTies
import Derived.KernelRfl
namespace Go.Proofs.Ytaajdaebcgjlpaa
/- THE CELL 'sum', in the pinned program and in every row, IS THE sha256 OF THE DUMP (.gsa) THAT YtaajdaebcgjlpaaProg.lean LOADS. Nothing in Lean hashes anything: it is a label: what it is worth is what the hold of that sum in a sandbox is worth. -/
noncomputable def Try.pinned : Pinned := { name := "ytaajdaebcgjlpaa", sum := "7a56fd61421f7def2b3fc1b7637824f57e6125859dce091b8631da605094e17d", checked := Try.checked }
namespace Rows
def none {H : Type} : Left H := { results := [], args := [] }

/-- 'hourglasslaw01.TicksTell': WHATEVER THE INPUT: true; the input reads as it did. -/
def ticksTellSpec : ChangeSpec := { name := "ticksTell", fn := fun _ => fun
  | [d1, d2, d3] => { results := [.lit (.bool true)], args := [d1, d2, d3] }
  | _ => none }
def ticksTellRow : OpenClaim := { program := "ytaajdaebcgjlpaa", sum := "7a56fd61421f7def2b3fc1b7637824f57e6125859dce091b8631da605094e17d", func := "hourglass/hourglasslaw01.TicksTell", spec := "ticksTell", apart := false }
def TicksTellSaid : Prop := ticksTellRow.holds Try.pinned (OpenSpec.ofChange ticksTellSpec)

/-- ITS FALSE NEIGHBOUR: 'it returns false'. Refute it at one input. -/
def ticksTellWrong : ChangeSpec := { name := "ticksTell", fn := fun _ => fun
  | [d1, d2, d3] => { results := [.lit (.bool false)], args := [d1, d2, d3] }
  | _ => none }
def TicksTellWrongFalsely : Prop := ticksTellRow.holds Try.pinned (OpenSpec.ofChange ticksTellWrong)

/-- 'hourglasslaw01.TicksSums': WHATEVER THE INPUT: true; the input reads as it did. -/
def ticksSumsSpec : ChangeSpec := { name := "ticksSums", fn := fun _ => fun
  | [d1, d2, d3] => { results := [.lit (.bool true)], args := [d1, d2, d3] }
  | _ => none }
def ticksSumsRow : OpenClaim := { program := "ytaajdaebcgjlpaa", sum := "7a56fd61421f7def2b3fc1b7637824f57e6125859dce091b8631da605094e17d", func := "hourglass/hourglasslaw01.TicksSums", spec := "ticksSums", apart := false }
def TicksSumsSaid : Prop := ticksSumsRow.holds Try.pinned (OpenSpec.ofChange ticksSumsSpec)

/-- ITS FALSE NEIGHBOUR: 'it returns false'. Refute it at one input. -/
def ticksSumsWrong : ChangeSpec := { name := "ticksSums", fn := fun _ => fun
  | [d1, d2, d3] => { results := [.lit (.bool false)], args := [d1, d2, d3] }
  | _ => none }
def TicksSumsWrongFalsely : Prop := ticksSumsRow.holds Try.pinned (OpenSpec.ofChange ticksSumsWrong)

/-- 'hourglasslaw01.TicksRise': WHATEVER THE INPUT: true; the input reads as it did. -/
def ticksRiseSpec : ChangeSpec := { name := "ticksRise", fn := fun _ => fun
  | [d1, d2, d3] => { results := [.lit (.bool true)], args := [d1, d2, d3] }
  | _ => none }
def ticksRiseRow : OpenClaim := { program := "ytaajdaebcgjlpaa", sum := "7a56fd61421f7def2b3fc1b7637824f57e6125859dce091b8631da605094e17d", func := "hourglass/hourglasslaw01.TicksRise", spec := "ticksRise", apart := false }
def TicksRiseSaid : Prop := ticksRiseRow.holds Try.pinned (OpenSpec.ofChange ticksRiseSpec)

/-- ITS FALSE NEIGHBOUR: 'it returns false'. Refute it at one input. -/
def ticksRiseWrong : ChangeSpec := { name := "ticksRise", fn := fun _ => fun
  | [d1, d2, d3] => { results := [.lit (.bool false)], args := [d1, d2, d3] }
  | _ => none }
def TicksRiseWrongFalsely : Prop := ticksRiseRow.holds Try.pinned (OpenSpec.ofChange ticksRiseWrong)

/-- 'hourglasslaw01.TicksGrain': WHATEVER THE INPUT: true; the input reads as it did. -/
def ticksGrainSpec : ChangeSpec := { name := "ticksGrain", fn := fun _ => fun
  | [d1, d2, d3, d4] => { results := [.lit (.bool true)], args := [d1, d2, d3, d4] }
  | _ => none }
def ticksGrainRow : OpenClaim := { program := "ytaajdaebcgjlpaa", sum := "7a56fd61421f7def2b3fc1b7637824f57e6125859dce091b8631da605094e17d", func := "hourglass/hourglasslaw01.TicksGrain", spec := "ticksGrain", apart := false }
def TicksGrainSaid : Prop := ticksGrainRow.holds Try.pinned (OpenSpec.ofChange ticksGrainSpec)

/-- ITS FALSE NEIGHBOUR: 'it returns false'. Refute it at one input. -/
def ticksGrainWrong : ChangeSpec := { name := "ticksGrain", fn := fun _ => fun
  | [d1, d2, d3, d4] => { results := [.lit (.bool false)], args := [d1, d2, d3, d4] }
  | _ => none }
def TicksGrainWrongFalsely : Prop := ticksGrainRow.holds Try.pinned (OpenSpec.ofChange ticksGrainWrong)

/- THE SECOND FORM. 'bulk': how many values and letters a reading holds, each counted each time it is reached (what is shared counts as often as it is met; a slice's spare places count too). A statement '..UptoSaid' is the law's where the arguments, and the package variables that the reading takes, are together of bulk at most 1048576: NARROWER than '..Said'. Prove '..Said' where nothing that the law and all that it calls make is longer than what came in: it says more and counts as full. Else prove '..UptoSaid'. A law counts once. -/
mutual
def uptoBulk {H : Type} : DataW H → Nat
  | .lit (.string bytes) => bytes.length + 1
  | .lit _ => 1
  | .nil => 1
  | .ptr d => uptoBulk d + 1
  | .slice elems spare => uptoBulkAll elems + uptoBulkAll spare + 1
  | .agg parts => uptoBulkAll parts + 1
  | .iface _ d => uptoBulk d + 1
  | .map entries => uptoBulkEntries entries + 1
  | .held _ => 1
def uptoBulkAll {H : Type} : List (DataW H) → Nat
  | [] => 0
  | d :: r => uptoBulk d + uptoBulkAll r
def uptoBulkEntries {H : Type} : List (Lit × DataW H) → Nat
  | [] => 0
  | x :: r => uptoBulkEntry x + uptoBulkEntries r
def uptoBulkEntry {H : Type} : Lit × DataW H → Nat
  | (.string bytes, d) => bytes.length + uptoBulk d + 1
  | (_, d) => uptoBulk d + 1
 end
def uptoSmall : (H : Type) → List (DataW H) → Bool := fun _ ds => decide (uptoBulkAll ds ≤ 1048576)
def OpenSpec.upto (s : _root_.Go.ChangeSpec) : _root_.Go.OpenSpec := { _root_.Go.OpenSpec.ofChange s with cond := some uptoSmall }

/-- 'hourglasslaw01.TicksTell', WHERE WHAT IT READS IS OF BULK AT MOST 1048576: true; the input reads as it did. -/
def ticksTellUptoRow : OpenClaim := { program := "ytaajdaebcgjlpaa", sum := "7a56fd61421f7def2b3fc1b7637824f57e6125859dce091b8631da605094e17d", func := "hourglass/hourglasslaw01.TicksTell", spec := "ticksTell", apart := false, narrowed := true }
def TicksTellUptoSaid : Prop := ticksTellUptoRow.holds Try.pinned (OpenSpec.upto ticksTellSpec)

/-- 'hourglasslaw01.TicksSums', WHERE WHAT IT READS IS OF BULK AT MOST 1048576: true; the input reads as it did. -/
def ticksSumsUptoRow : OpenClaim := { program := "ytaajdaebcgjlpaa", sum := "7a56fd61421f7def2b3fc1b7637824f57e6125859dce091b8631da605094e17d", func := "hourglass/hourglasslaw01.TicksSums", spec := "ticksSums", apart := false, narrowed := true }
def TicksSumsUptoSaid : Prop := ticksSumsUptoRow.holds Try.pinned (OpenSpec.upto ticksSumsSpec)

/-- 'hourglasslaw01.TicksRise', WHERE WHAT IT READS IS OF BULK AT MOST 1048576: true; the input reads as it did. -/
def ticksRiseUptoRow : OpenClaim := { program := "ytaajdaebcgjlpaa", sum := "7a56fd61421f7def2b3fc1b7637824f57e6125859dce091b8631da605094e17d", func := "hourglass/hourglasslaw01.TicksRise", spec := "ticksRise", apart := false, narrowed := true }
def TicksRiseUptoSaid : Prop := ticksRiseUptoRow.holds Try.pinned (OpenSpec.upto ticksRiseSpec)

/-- 'hourglasslaw01.TicksGrain', WHERE WHAT IT READS IS OF BULK AT MOST 1048576: true; the input reads as it did. -/
def ticksGrainUptoRow : OpenClaim := { program := "ytaajdaebcgjlpaa", sum := "7a56fd61421f7def2b3fc1b7637824f57e6125859dce091b8631da605094e17d", func := "hourglass/hourglasslaw01.TicksGrain", spec := "ticksGrain", apart := false, narrowed := true }
def TicksGrainUptoSaid : Prop := ticksGrainUptoRow.holds Try.pinned (OpenSpec.upto ticksGrainSpec)

end Rows
end Go.Proofs.Ytaajdaebcgjlpaa
