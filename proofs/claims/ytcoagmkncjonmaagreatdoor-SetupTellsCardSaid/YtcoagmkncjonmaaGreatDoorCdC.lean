/- Package code: which numbers are codes; the code that a number stands for. Package code: which codes may be tried again. -/
import Derived.Test.YtcoagmkncjonmaaGreatDoorSt
namespace Go.Proofs.YtcoagmkncjonmaaGreatDoor.Cd
open Go.RowKit Go.Sort St

/-- a code, or Unknown -/
def clean (c : Int) : Int := if 0 ≤ c ∧ c ≤ 16 then c else 2
theorem clean_lo (c : Int) : 0 ≤ clean c := by unfold clean; split <;> omega
theorem clean_hi (c : Int) : clean c ≤ 16 := by unfold clean; split <;> omega
theorem clean_of {c : Int} (h0 : 0 ≤ c) (h1 : c ≤ 16) : clean c = c := by unfold clean; rw [if_pos ⟨h0, h1⟩]
theorem clean_out {c : Int} (h : ¬ (0 ≤ c ∧ c ≤ 16)) : clean c = 2 := by unfold clean; rw [if_neg h]
theorem clean_clean (c : Int) : clean (clean c) = clean c := clean_of (clean_lo c) (clean_hi c)

def right (c : Int) : Bool := decide (0 ≤ c) && decide (c ≤ 16)
theorem right_yes {c : Int} (h0 : 0 ≤ c) (h1 : c ≤ 16) : right c = true := by simp [right, h0, h1]
theorem right_lo {c : Int} (h0 : ¬ 0 ≤ c) : right c = false := by simp [right, h0]
theorem right_hi {c : Int} (h0 : ¬ c ≤ 16) : right c = false := by simp [right, h0]
theorem right_no {c : Int} (h : ¬ (0 ≤ c ∧ c ≤ 16)) : right c = false := by
  rcases Int.lt_or_le c 0 with h0 | h0
  · exact right_lo (by omega)
  · exact right_hi (by omega)

theorem right_any (c : Int) (w : World) :
    Calls Tryz.prog 49 #[.int .i64 c] w fun e w' => e = .returned (.bool (right c)) ∧ w = w' := by
  by_cases h1 : 0 ≤ c
  · by_cases h2 : c ≤ 16
    · have h := Lib.hid (right_yes h1 h2)
      go_enter Tryz.func49, Tryz.ntmps49
      go_wp2_with fail
      go_ret
      exact ⟨ret_bool h.out.symm, rfl⟩
    · have h := Lib.hid (right_hi h2)
      go_enter Tryz.func49, Tryz.ntmps49
      go_wp2_with fail
      go_ret
      exact ⟨ret_bool h.out.symm, rfl⟩
  · have h := Lib.hid (right_lo h1)
    go_enter Tryz.func49, Tryz.ntmps49
    go_wp2_with fail
    go_ret
    exact ⟨ret_bool h.out.symm, rfl⟩




end Go.Proofs.YtcoagmkncjonmaaGreatDoor.Cd

namespace Go.Proofs.YtcoagmkncjonmaaGreatDoor.Cd
open Go.RowKit Go.Sort St


end Go.Proofs.YtcoagmkncjonmaaGreatDoor.Cd
