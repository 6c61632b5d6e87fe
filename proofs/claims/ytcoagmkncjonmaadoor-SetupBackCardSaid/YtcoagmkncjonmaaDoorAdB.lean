/- What a configuration's numbers may be; package admit, and the document's own answer: what that comes to. -/
import Derived.Test.YtcoagmkncjonmaaDoorCf
import Derived.Test.YtcoagmkncjonmaaDoorBx
import Derived.Deep.WholeRow
import Derived.Deep.Cut
import Derived.Deep.RegionHeld3
import Derived.IntWalk
namespace Go.Proofs.YtcoagmkncjonmaaDoor.Ad
open Go.RowKit Go.Sort St
open Go.Proofs.YtcoagmkncjonmaaDoor.Id (quiet_at)
set_option linter.unusedVariables false

/-- a number, and what it may be -/
def bnds (c : Cf) : List (Int × Int × Int) :=
  [(c.nodes, 1, 64), (c.skew, 0, 1000), (c.lease, 1, 1000000), (c.grain, 0, 6), (c.least, 1, 1000000), (c.hops, 1, 16), (c.cap, 1, 64), (c.fan, 1, 8), (c.attempts, 1, 5), (c.base, 1, 1000000), (c.most, 1, 1000000), (c.wait, 1, 1000000), (c.tokens, 1, 1000), ((c.pn : Int), 1, 16)]
def inB (n a b : Int) : Bool := decide (a ≤ n ∧ n ≤ b)
def right (c : Cf) : Bool := (bnds c).all (fun e => inB e.1 e.2.1 e.2.2) && decide (c.base ≤ c.most)


end Go.Proofs.YtcoagmkncjonmaaDoor.Ad
