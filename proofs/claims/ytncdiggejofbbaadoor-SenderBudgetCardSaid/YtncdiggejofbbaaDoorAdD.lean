/- A call's deadline: package admit, and the document's own answer. -/
import Derived.Test.YtncdiggejofbbaaDoorTm
import Derived.Test.YtncdiggejofbbaaDoorPkS
import Derived.Test.YtncdiggejofbbaaDoorBx
namespace Go.Proofs.YtncdiggejofbbaaDoor.Ad
open Go.RowKit Go.Sort St PkM IdM
set_option linter.unusedVariables false

/-- a call's deadline -/
def dlP (p : Pk) : Int := (Bu.dl p.stamp p.tm.data.toList).1
theorem dlP_ret {p : Pk} {x : Int} (h : dlP p = x) : Ending.returned (.int .i64 (Bu.dl p.stamp p.tm.data.toList).1) = .returned (.int .i64 x) := by rw [← h]; rfl

/-! a call's deadline -/
set_option maxRecDepth 100000 in
set_option maxHeartbeats 1000000 in
theorem deadline_p (p : Pk) (w : World) : Calls Tryd.prog 28 #[.agg p.arr] w fun e w' => e = .returned (.int .i64 (dlP p)) ∧ Kept w w' := by
  have hc := Bu.deadline_any p.stamp p.tm
  obtain ⟨x, hx⟩ : ∃ x, dlP p = x := ⟨_, rfl⟩
  obtain ⟨y, hy⟩ : ∃ y, (Bu.dl p.stamp p.tm.data.toList).2 = y := ⟨_, rfl⟩
  rw [show (Bu.dl p.stamp p.tm.data.toList).1 = x from hx, hy] at hc
  have HC := Lib.hid hc
  have HW := Lib.hid (show Kept w (w.alloc (.cells p.arr 37)) from Kept.one _ _)
  rw [hx]
  have x8 : p.arr[8]? = some (.int .i64 p.stamp) := rfl
  have x9 : p.arr[9]? = some (.string p.tm) := rfl
  clear hc hx hy
  go_enter Tryd.func28, Tryd.ntmps28
  go_wp2_with (go_at_call 63; refine (HC.out _).mono ?_; rintro e w' ⟨rfl, rfl⟩)
  go_ret
  exact ⟨rfl, HW.out⟩


end Go.Proofs.YtncdiggejofbbaaDoor.Ad
