/- Contracts of package ticks, and of the document's own answers for it: what each function returns, and that it leaves memory as it was. -/
import Derived.Test.YtpicjcophjekpaaChecked
import Derived.Test.YtpicjcophjekpaaTkMath
import Derived.WalkKit
import Derived.Lib.Hide
namespace Go.Proofs.Ytpicjcophjekpaa.Tk
open Go.RowKit

theorem ret_int {k : IntKind} {a b : Int} (h : a = b) : Ending.returned (.int k a) = .returned (.int k b) := by rw [h]
theorem ret_bool {a b : Bool} (h : a = b) : Ending.returned (.bool a) = .returned (.bool b) := by rw [h]

set_option maxHeartbeats 400000 in
theorem clamp_any (n : Int) (w : World) :
    Calls Try.prog 32 #[.int .i64 n] w fun e w' => e = .returned (.int .i64 (clamp n)) ∧ w = w' := by
  go_enter Try.func32, Try.ntmps32
  go_wp2
  all_goals go_ret
  all_goals exact ⟨ret_int (by unfold clamp most; omega), rfl⟩

set_option maxHeartbeats 400000 in
theorem add_any (a : Int) (b : Int) (w : World) :
    Calls Try.prog 30 #[.int .i64 a, .int .i64 b] w fun e w' => e = .returned (.int .i64 (add a b)) ∧ w = w' := by
  have ha := clamp_lo a
  have ha2 := clamp_hi a
  have hb := clamp_lo b
  have hb2 := clamp_hi b
  go_enter Try.func30, Try.ntmps30
  go_wp2_with (go_at_call 32; refine (clamp_any _ _).mono ?_; rintro e w' ⟨rfl, rfl⟩)
  all_goals go_ret
  all_goals exact ⟨ret_int (by unfold add most; omega), rfl⟩

set_option maxHeartbeats 400000 in
theorem sub_any (a : Int) (b : Int) (w : World) :
    Calls Try.prog 57 #[.int .i64 a, .int .i64 b] w fun e w' => e = .returned (.int .i64 (sub a b)) ∧ w = w' := by
  have ha := clamp_lo a
  have ha2 := clamp_hi a
  have hb := clamp_lo b
  have hb2 := clamp_hi b
  go_enter Try.func57, Try.ntmps57
  go_wp2_with (go_at_call 32; refine (clamp_any _ _).mono ?_; rintro e w' ⟨rfl, rfl⟩)
  all_goals go_ret
  all_goals exact ⟨ret_int (by unfold sub; omega), rfl⟩

set_option maxHeartbeats 400000 in
theorem rclamp_any (n : Int) (w : World) :
    Calls Try.prog 17 #[.int .i64 n] w fun e w' => e = .returned (.int .i64 (clamp n)) ∧ w = w' := by
  go_enter Try.func17, Try.ntmps17
  go_wp2
  all_goals go_ret
  all_goals exact ⟨ret_int (by unfold clamp most; omega), rfl⟩

set_option maxHeartbeats 400000 in
theorem radd_any (a : Int) (b : Int) (w : World) :
    Calls Try.prog 18 #[.int .i64 a, .int .i64 b] w fun e w' => e = .returned (.int .i64 (add a b)) ∧ w = w' := by
  have ha := clamp_lo a
  have ha2 := clamp_hi a
  have hb := clamp_lo b
  have hb2 := clamp_hi b
  go_enter Try.func18, Try.ntmps18
  go_wp2_with (go_at_call 17; refine (rclamp_any _ _).mono ?_; rintro e w' ⟨rfl, rfl⟩)
  all_goals go_ret
  all_goals exact ⟨ret_int (by unfold add most; omega), rfl⟩

set_option maxHeartbeats 400000 in
theorem rsub_any (a : Int) (b : Int) (w : World) :
    Calls Try.prog 54 #[.int .i64 a, .int .i64 b] w fun e w' => e = .returned (.int .i64 (sub a b)) ∧ w = w' := by
  have ha := clamp_lo a
  have ha2 := clamp_hi a
  have hb := clamp_lo b
  have hb2 := clamp_hi b
  go_enter Try.func54, Try.ntmps54
  go_wp2_with (go_at_call 17; refine (rclamp_any _ _).mono ?_; rintro e w' ⟨rfl, rfl⟩)
  all_goals go_ret
  all_goals exact ⟨ret_int (by unfold sub; omega), rfl⟩

end Go.Proofs.Ytpicjcophjekpaa.Tk
