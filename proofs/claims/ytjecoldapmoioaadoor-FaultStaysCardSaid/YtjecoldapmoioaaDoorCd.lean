/- Package code: names, numbers, what says more. -/
import Derived.Test.YtjecoldapmoioaaDoorSt
import Derived.Laws.Rows
import Derived.Great.BuildSlice
namespace Go.Proofs.YtjecoldapmoioaaDoor.Cd
open Go.RowKit Go.Sort St

/-- a code, or Unknown -/
def clean (c : Int) : Int := if 0 ≤ c ∧ c ≤ 16 then c else 2
theorem clean_lo (c : Int) : 0 ≤ clean c := by unfold clean; split <;> omega
theorem clean_hi (c : Int) : clean c ≤ 16 := by unfold clean; split <;> omega
theorem clean_of {c : Int} (h0 : 0 ≤ c) (h1 : c ≤ 16) : clean c = c := by unfold clean; rw [if_pos ⟨h0, h1⟩]
theorem clean_out {c : Int} (h : ¬ (0 ≤ c ∧ c ≤ 16)) : clean c = 2 := by unfold clean; rw [if_neg h]
theorem clean_clean (c : Int) : clean (clean c) = clean c := clean_of (clean_lo c) (clean_hi c)

/-- the names, each at its number -/
def nameL : List (List UInt8) :=
  [[79, 75],
   [67, 65, 78, 67, 69, 76, 76, 69, 68],
   [85, 78, 75, 78, 79, 87, 78],
   [73, 78, 86, 65, 76, 73, 68, 95, 65, 82, 71, 85, 77, 69, 78, 84],
   [68, 69, 65, 68, 76, 73, 78, 69, 95, 69, 88, 67, 69, 69, 68, 69, 68],
   [78, 79, 84, 95, 70, 79, 85, 78, 68],
   [65, 76, 82, 69, 65, 68, 89, 95, 69, 88, 73, 83, 84, 83],
   [80, 69, 82, 77, 73, 83, 83, 73, 79, 78, 95, 68, 69, 78, 73, 69, 68],
   [82, 69, 83, 79, 85, 82, 67, 69, 95, 69, 88, 72, 65, 85, 83, 84, 69, 68],
   [70, 65, 73, 76, 69, 68, 95, 80, 82, 69, 67, 79, 78, 68, 73, 84, 73, 79, 78],
   [65, 66, 79, 82, 84, 69, 68],
   [79, 85, 84, 95, 79, 70, 95, 82, 65, 78, 71, 69],
   [85, 78, 73, 77, 80, 76, 69, 77, 69, 78, 84, 69, 68],
   [73, 78, 84, 69, 82, 78, 65, 76],
   [85, 78, 65, 86, 65, 73, 76, 65, 66, 76, 69],
   [68, 65, 84, 65, 95, 76, 79, 83, 83],
   [85, 78, 65, 85, 84, 72, 69, 78, 84, 73, 67, 65, 84, 69, 68]]
def nameB (i : Int) : ByteArray := ⟨(nameL.getD i.toNat []).toArray⟩
def row : Array Value := (nameL.map fun l => .string ⟨l.toArray⟩).toArray

def right (c : Int) : Bool := decide (0 ≤ c) && decide (c ≤ 16)
theorem right_yes {c : Int} (h0 : 0 ≤ c) (h1 : c ≤ 16) : right c = true := by simp [right, h0, h1]
theorem right_lo {c : Int} (h0 : ¬ 0 ≤ c) : right c = false := by simp [right, h0]
theorem right_hi {c : Int} (h0 : ¬ c ≤ 16) : right c = false := by simp [right, h0]
theorem right_no {c : Int} (h : ¬ (0 ≤ c ∧ c ≤ 16)) : right c = false := by
  rcases Int.lt_or_le c 0 with h0 | h0
  · exact right_lo (by omega)
  · exact right_hi (by omega)

theorem right_any (c : Int) (w : World) :
    Calls Tryd.prog 25 #[.int .i64 c] w fun e w' => e = .returned (.bool (right c)) ∧ w = w' := by
  by_cases h1 : 0 ≤ c
  · by_cases h2 : c ≤ 16
    · have h := Lib.hid (right_yes h1 h2)
      go_enter Tryd.func25, Tryd.ntmps25
      go_wp2_with fail
      go_ret
      exact ⟨ret_bool h.out.symm, rfl⟩
    · have h := Lib.hid (right_hi h2)
      go_enter Tryd.func25, Tryd.ntmps25
      go_wp2_with fail
      go_ret
      exact ⟨ret_bool h.out.symm, rfl⟩
  · have h := Lib.hid (right_lo h1)
    go_enter Tryd.func25, Tryd.ntmps25
    go_wp2_with fail
    go_ret
    exact ⟨ret_bool h.out.symm, rfl⟩

theorem clean_any (c : Int) (w : World) :
    Calls Tryd.prog 17 #[.int .i64 c] w fun e w' => e = .returned (.int .i64 (clean c)) ∧ w = w' := by
  have hr := right_any c w
  by_cases h1 : 0 ≤ c ∧ c ≤ 16
  · have h := Lib.hid (clean_of h1.1 h1.2)
    rw [right_yes h1.1 h1.2] at hr
    have HR := Lib.hid hr
    clear hr
    go_enter Tryd.func17, Tryd.ntmps17
    go_wp2_with (go_at_call 25; refine HR.out.mono ?_; rintro e w' ⟨rfl, rfl⟩)
    go_ret
    exact ⟨ret_int h.out.symm, rfl⟩
  · have h := Lib.hid (clean_out h1)
    rw [right_no h1] at hr
    have HR := Lib.hid hr
    clear hr
    go_enter Tryd.func17, Tryd.ntmps17
    go_wp2_with (go_at_call 25; refine HR.out.mono ?_; rintro e w' ⟨rfl, rfl⟩)
    go_ret
    exact ⟨ret_int h.out.symm, rfl⟩

theorem info_row : (Tryd.prog.info? 122).map (·.size) = some row.size := by kernel_rfl
set_option maxHeartbeats 1000000 in
theorem names_any (w : World) :
    Calls Tryd.prog 73 #[] w fun e w' => e = .returned (.agg row) ∧ Kept w w' := by
  go_enter Tryd.func73, Tryd.ntmps73
  go_wp2_with fail
  refine bodyPost_ret (results_cell_row rfl _ _ w.heap.size 122 row (0, 0) _ rfl (blk_new w _) Tryd.underlying122 rfl info_row) rfl ⟨rfl, (Kept.refl w).grow #[_]⟩

theorem row_at (i : Int) (h0 : 0 ≤ i) (h1 : i ≤ 16) (w : World) : (Instr.index 122 (.agg row) (.int .i64 i)).run Tryd.prog w = .ok (.string (nameB i)) w := by
  rcases (by omega : i = 0 ∨ i = 1 ∨ i = 2 ∨ i = 3 ∨ i = 4 ∨ i = 5 ∨ i = 6 ∨ i = 7 ∨ i = 8 ∨ i = 9 ∨ i = 10 ∨ i = 11 ∨ i = 12 ∨ i = 13 ∨ i = 14 ∨ i = 15 ∨ i = 16) with
    rfl | rfl | rfl | rfl | rfl | rfl | rfl | rfl | rfl | rfl | rfl | rfl | rfl | rfl | rfl | rfl | rfl <;> kernel_rfl

theorem text_any (c : Int) (w : World) :
    Calls Tryd.prog 72 #[.int .i64 c] w fun e w' => e = .returned (.string (nameB (clean c))) ∧ Kept w w' := by
  have HN := Lib.hid (names_any w)
  have HC := Lib.hid (clean_any c)
  obtain ⟨x, hx⟩ : ∃ x, clean c = x := ⟨_, rfl⟩
  have h0 := clean_lo c
  have h1 := clean_hi c
  rw [hx] at HC h0 h1 ⊢
  have hidx := row_at x h0 h1
  clear hx h0 h1
  go_enter Tryd.func72, Tryd.ntmps72
  go_wp2_with (first | (go_at_call 73; refine HN.out.mono ?_; rintro e w' ⟨rfl, hk⟩) | (go_at_call 17; refine (HC.out _).mono ?_; rintro e w' ⟨rfl, rfl⟩))
  go_ret
  exact ⟨rfl, hk⟩

end Go.Proofs.YtjecoldapmoioaaDoor.Cd
