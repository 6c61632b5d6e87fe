/- Contracts of package budget, and of the document's own answers for it: what is left, and whether it is enough. -/
import Derived.Test.YtncdiggejofbbaaDoorTk
import Derived.Test.YtncdiggejofbbaaDoorSt
namespace Go.Proofs.YtncdiggejofbbaaDoor.Bu
open Go.RowKit St Go.Sort

def enough (a b c : Int) : Bool := decide (0 < Tk.sub a b ∧ Tk.clamp c ≤ Tk.sub a b)

set_option maxHeartbeats 400000 in
theorem left_any (a b : Int) (w : World) :
    Calls Tryd.prog 55 #[.int .i64 a, .int .i64 b] w fun e w' => e = .returned (.int .i64 (Tk.sub a b)) ∧ w = w' := by
  go_enter Tryd.func55, Tryd.ntmps55
  go_wp2_with (go_at_call 77; refine (Tk.sub_any _ _ _).mono ?_; rintro e w' ⟨rfl, rfl⟩)
  go_ret
  exact ⟨rfl, rfl⟩

/-- what 'enough' is, by the difference and the least under names -/
theorem enough_of {a b c x y : Int} (hx : Tk.sub a b = x) (hy : Tk.clamp c = y) : enough a b c = decide (0 < x ∧ y ≤ x) := by unfold enough; rw [hx, hy]

set_option maxHeartbeats 400000 in
theorem enough_any (a b c : Int) (w : World) :
    Calls Tryd.prog 36 #[.int .i64 a, .int .i64 b, .int .i64 c] w fun e w' => e = .returned (.bool (enough a b c)) ∧ w = w' := by
  obtain ⟨x, hx⟩ : ∃ x, Tk.sub a b = x := ⟨_, rfl⟩
  obtain ⟨y, hy⟩ : ∃ y, Tk.clamp c = y := ⟨_, rfl⟩
  have HE := Lib.hid (enough_of hx hy)
  have C1 := Lib.hid (fun w => hx ▸ left_any a b w)
  have C2 := Lib.hid (fun w => hy ▸ Tk.clamp_any c w)
  clear hx hy
  by_cases h1 : 0 < x
  · by_cases h2 : y ≤ x
    · go_enter Tryd.func36, Tryd.ntmps36
      go_wp2_with (first | (go_at_call 55; refine (C1.out _).mono ?_; rintro e w' ⟨rfl, rfl⟩) | (go_at_call 62; refine (C2.out _).mono ?_; rintro e w' ⟨rfl, rfl⟩))
      go_ret
      exact ⟨ret_bool (by rw [HE.out]; simp [h1, h2]), rfl⟩
    · go_enter Tryd.func36, Tryd.ntmps36
      go_wp2_with (first | (go_at_call 55; refine (C1.out _).mono ?_; rintro e w' ⟨rfl, rfl⟩) | (go_at_call 62; refine (C2.out _).mono ?_; rintro e w' ⟨rfl, rfl⟩))
      go_ret
      exact ⟨ret_bool (by rw [HE.out]; simp [h1]), rfl⟩
  · go_enter Tryd.func36, Tryd.ntmps36
    go_wp2_with (first | (go_at_call 55; refine (C1.out _).mono ?_; rintro e w' ⟨rfl, rfl⟩) | (go_at_call 62; refine (C2.out _).mono ?_; rintro e w' ⟨rfl, rfl⟩))
    go_ret
    exact ⟨ret_bool (by rw [HE.out]; simp; omega), rfl⟩

set_option maxHeartbeats 400000 in
theorem renough_any (a b c : Int) (w : World) :
    Calls Tryd.prog 40 #[.int .i64 a, .int .i64 b, .int .i64 c] w fun e w' => e = .returned (.bool (enough a b c)) ∧ w = w' := by
  obtain ⟨x, hx⟩ : ∃ x, Tk.sub a b = x := ⟨_, rfl⟩
  obtain ⟨y, hy⟩ : ∃ y, Tk.clamp c = y := ⟨_, rfl⟩
  have hx0 : 0 ≤ x := hx ▸ Tk.sub_lo a b
  have HE := Lib.hid (enough_of hx hy)
  have C1 := Lib.hid (fun w => hx ▸ Tk.rsub_any a b w)
  have C2 := Lib.hid (fun w => hy ▸ Tk.rclamp_any c w)
  clear hx hy
  by_cases h1 : x = 0
  · have hb : (x != 0) = false := by simp [h1]
    have H1 := Lib.hid h1
    clear h1
    go_enter Tryd.func40, Tryd.ntmps40
    go_wp2_with (first | (go_at_call 29; refine (C1.out _).mono ?_; rintro e w' ⟨rfl, rfl⟩) | (go_at_call 30; refine (C2.out _).mono ?_; rintro e w' ⟨rfl, rfl⟩))
    go_ret
    exact ⟨ret_bool (by rw [HE.out]; simp [H1.out]), rfl⟩
  · have hb : (x != 0) = true := by simpa using h1
    have H1 := Lib.hid (show 0 < x by omega)
    clear h1
    by_cases h2 : y ≤ x
    · go_enter Tryd.func40, Tryd.ntmps40
      go_wp2_with (first | (go_at_call 29; refine (C1.out _).mono ?_; rintro e w' ⟨rfl, rfl⟩) | (go_at_call 30; refine (C2.out _).mono ?_; rintro e w' ⟨rfl, rfl⟩))
      go_ret
      exact ⟨ret_bool (by rw [HE.out]; simp [H1.out, h2]), rfl⟩
    · go_enter Tryd.func40, Tryd.ntmps40
      go_wp2_with (first | (go_at_call 29; refine (C1.out _).mono ?_; rintro e w' ⟨rfl, rfl⟩) | (go_at_call 30; refine (C2.out _).mono ?_; rintro e w' ⟨rfl, rfl⟩))
      go_ret
      exact ⟨ret_bool (by rw [HE.out]; simp [H1.out]), rfl⟩

end Go.Proofs.YtncdiggejofbbaaDoor.Bu
