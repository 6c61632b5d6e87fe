/- Contracts of package ticks, and of the document's own answers for it: what each function returns, and that it leaves memory as it was. -/
import Derived.Test.YtplkhinjlgmilaaChecked
import Derived.Test.YtplkhinjlgmilaaTkMath
import Derived.WalkKit
import Derived.Lib.Hide
namespace Go.Proofs.Ytplkhinjlgmilaa.Tk
open Go.RowKit

theorem ret_int {k : IntKind} {a b : Int} (h : a = b) : Ending.returned (.int k a) = .returned (.int k b) := by rw [h]
theorem ret_bool {a b : Bool} (h : a = b) : Ending.returned (.bool a) = .returned (.bool b) := by rw [h]

set_option maxHeartbeats 400000 in
theorem clamp_any (n : Int) (w : World) :
    Calls Try.prog 53 #[.int .i64 n] w fun e w' => e = .returned (.int .i64 (clamp n)) ∧ w = w' := by
  go_enter Try.func53, Try.ntmps53
  go_wp2
  all_goals go_ret
  all_goals exact ⟨ret_int (by unfold clamp most; omega), rfl⟩



set_option maxHeartbeats 400000 in
theorem rclamp_any (n : Int) (w : World) :
    Calls Try.prog 34 #[.int .i64 n] w fun e w' => e = .returned (.int .i64 (clamp n)) ∧ w = w' := by
  go_enter Try.func34, Try.ntmps34
  go_wp2
  all_goals go_ret
  all_goals exact ⟨ret_int (by unfold clamp most; omega), rfl⟩



end Go.Proofs.Ytplkhinjlgmilaa.Tk
