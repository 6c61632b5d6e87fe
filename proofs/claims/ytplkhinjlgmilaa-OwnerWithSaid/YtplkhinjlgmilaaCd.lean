/- Package code: names, numbers, what says more. -/
import Derived.Test.YtplkhinjlgmilaaCdC
import Derived.Laws.Rows
import Derived.Great.BuildSlice
namespace Go.Proofs.Ytplkhinjlgmilaa.Cd
open Go.RowKit Go.Sort St

/-- the names, each at its number -/
def nameL : List (List UInt8) :=
  [[79, 75],
   [67, 65, 78, 67, 69, 76, 76, 69, 68],
   [85, 78, 75, 78, 79, 87, 78],
   [73, 78, 86, 65, 76, 73, 68, 95, 65, 82, 71, 85, 77, 69, 78, 84],
   [68, 69, 65, 68, 76, 73, 78, 69, 95, 69, 88, 67, 69, 69, 68, 69, 68],
   [78, 79, 84, 95, 70, 79, 85, 78, 68],
   [65, 76, 82, 69, 65, 68, 89, 95, 69, 88, 73, 83, 84, 83],
   [80, 69, 82, 77, 73, 83, 83, 73, 79, 78, 95, 68, 69, 78, 73, 69, 68],
   [82, 69, 83, 79, 85, 82, 67, 69, 95, 69, 88, 72, 65, 85, 83, 84, 69, 68],
   [70, 65, 73, 76, 69, 68, 95, 80, 82, 69, 67, 79, 78, 68, 73, 84, 73, 79, 78],
   [65, 66, 79, 82, 84, 69, 68],
   [79, 85, 84, 95, 79, 70, 95, 82, 65, 78, 71, 69],
   [85, 78, 73, 77, 80, 76, 69, 77, 69, 78, 84, 69, 68],
   [73, 78, 84, 69, 82, 78, 65, 76],
   [85, 78, 65, 86, 65, 73, 76, 65, 66, 76, 69],
   [68, 65, 84, 65, 95, 76, 79, 83, 83],
   [85, 78, 65, 85, 84, 72, 69, 78, 84, 73, 67, 65, 84, 69, 68]]
def nameB (i : Int) : ByteArray := ⟨(nameL.getD i.toNat []).toArray⟩
def row : Array Value := (nameL.map fun l => .string ⟨l.toArray⟩).toArray




end Go.Proofs.Ytplkhinjlgmilaa.Cd
