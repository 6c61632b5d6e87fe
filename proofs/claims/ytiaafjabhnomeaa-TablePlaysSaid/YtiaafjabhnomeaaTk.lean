/- Contracts of package ticks, and of the document's own answers for it: what each function returns, and that it leaves memory as it was. -/
import Derived.Test.YtiaafjabhnomeaaChecked
import Derived.Test.YtiaafjabhnomeaaTkMath
import Derived.WalkKit
import Derived.Lib.Hide
namespace Go.Proofs.Ytiaafjabhnomeaa.Tk
open Go.RowKit

theorem ret_int {k : IntKind} {a b : Int} (h : a = b) : Ending.returned (.int k a) = .returned (.int k b) := by rw [h]
theorem ret_bool {a b : Bool} (h : a = b) : Ending.returned (.bool a) = .returned (.bool b) := by rw [h]







end Go.Proofs.Ytiaafjabhnomeaa.Tk
