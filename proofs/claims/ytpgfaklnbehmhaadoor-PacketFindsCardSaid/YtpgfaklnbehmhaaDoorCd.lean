/- Package code: names, numbers, what says more. -/
import Derived.Test.YtpgfaklnbehmhaaDoorSt
import Derived.Laws.Rows
import Derived.Great.BuildSlice
namespace Go.Proofs.YtpgfaklnbehmhaaDoor.Cd
open Go.RowKit Go.Sort St

/-- a code, or Unknown -/
def clean (c : Int) : Int := if 0 ≤ c ∧ c ≤ 16 then c else 2
theorem clean_lo (c : Int) : 0 ≤ clean c := by unfold clean; split <;> omega
theorem clean_hi (c : Int) : clean c ≤ 16 := by unfold clean; split <;> omega
theorem clean_of {c : Int} (h0 : 0 ≤ c) (h1 : c ≤ 16) : clean c = c := by unfold clean; rw [if_pos ⟨h0, h1⟩]
theorem clean_out {c : Int} (h : ¬ (0 ≤ c ∧ c ≤ 16)) : clean c = 2 := by unfold clean; rw [if_neg h]
theorem clean_clean (c : Int) : clean (clean c) = clean c := clean_of (clean_lo c) (clean_hi c)

/-- the names, each at its number -/
def nameL : List (List UInt8) :=
  [[79, 75],
   [67, 65, 78, 67, 69, 76, 76, 69, 68],
   [85, 78, 75, 78, 79, 87, 78],
   [73, 78, 86, 65, 76, 73, 68, 95, 65, 82, 71, 85, 77, 69, 78, 84],
   [68, 69, 65, 68, 76, 73, 78, 69, 95, 69, 88, 67, 69, 69, 68, 69, 68],
   [78, 79, 84, 95, 70, 79, 85, 78, 68],
   [65, 76, 82, 69, 65, 68, 89, 95, 69, 88, 73, 83, 84, 83],
   [80, 69, 82, 77, 73, 83, 83, 73, 79, 78, 95, 68, 69, 78, 73, 69, 68],
   [82, 69, 83, 79, 85, 82, 67, 69, 95, 69, 88, 72, 65, 85, 83, 84, 69, 68],
   [70, 65, 73, 76, 69, 68, 95, 80, 82, 69, 67, 79, 78, 68, 73, 84, 73, 79, 78],
   [65, 66, 79, 82, 84, 69, 68],
   [79, 85, 84, 95, 79, 70, 95, 82, 65, 78, 71, 69],
   [85, 78, 73, 77, 80, 76, 69, 77, 69, 78, 84, 69, 68],
   [73, 78, 84, 69, 82, 78, 65, 76],
   [85, 78, 65, 86, 65, 73, 76, 65, 66, 76, 69],
   [68, 65, 84, 65, 95, 76, 79, 83, 83],
   [85, 78, 65, 85, 84, 72, 69, 78, 84, 73, 67, 65, 84, 69, 68]]
def nameB (i : Int) : ByteArray := ⟨(nameL.getD i.toNat []).toArray⟩
def row : Array Value := (nameL.map fun l => .string ⟨l.toArray⟩).toArray

def right (c : Int) : Bool := decide (0 ≤ c) && decide (c ≤ 16)
theorem right_yes {c : Int} (h0 : 0 ≤ c) (h1 : c ≤ 16) : right c = true := by simp [right, h0, h1]
theorem right_lo {c : Int} (h0 : ¬ 0 ≤ c) : right c = false := by simp [right, h0]
theorem right_hi {c : Int} (h0 : ¬ c ≤ 16) : right c = false := by simp [right, h0]
theorem right_no {c : Int} (h : ¬ (0 ≤ c ∧ c ≤ 16)) : right c = false := by
  rcases Int.lt_or_le c 0 with h0 | h0
  · exact right_lo (by omega)
  · exact right_hi (by omega)

theorem right_any (c : Int) (w : World) :
    Calls Tryd.prog 62 #[.int .i64 c] w fun e w' => e = .returned (.bool (right c)) ∧ w = w' := by
  by_cases h1 : 0 ≤ c
  · by_cases h2 : c ≤ 16
    · have h := Lib.hid (right_yes h1 h2)
      go_enter Tryd.func62, Tryd.ntmps62
      go_wp2_with fail
      go_ret
      exact ⟨ret_bool h.out.symm, rfl⟩
    · have h := Lib.hid (right_hi h2)
      go_enter Tryd.func62, Tryd.ntmps62
      go_wp2_with fail
      go_ret
      exact ⟨ret_bool h.out.symm, rfl⟩
  · have h := Lib.hid (right_lo h1)
    go_enter Tryd.func62, Tryd.ntmps62
    go_wp2_with fail
    go_ret
    exact ⟨ret_bool h.out.symm, rfl⟩





theorem rright_any (c : Int) (w : World) :
    Calls Tryd.prog 20 #[.int .i64 c] w fun e w' => e = .returned (.bool (right c)) ∧ w = w' := by
  by_cases h1 : 0 ≤ c
  · by_cases h2 : c ≤ 16
    · have h := Lib.hid (right_yes h1 h2)
      go_enter Tryd.func20, Tryd.ntmps20
      go_wp2_with fail
      go_ret
      exact ⟨ret_bool h.out.symm, rfl⟩
    · have h := Lib.hid (right_hi h2)
      go_enter Tryd.func20, Tryd.ntmps20
      go_wp2_with fail
      go_ret
      exact ⟨ret_bool h.out.symm, rfl⟩
  · have h := Lib.hid (right_lo h1)
    go_enter Tryd.func20, Tryd.ntmps20
    go_wp2_with fail
    go_ret
    exact ⟨ret_bool h.out.symm, rfl⟩

end Go.Proofs.YtpgfaklnbehmhaaDoor.Cd
