/- Contracts of package budget, and of the document's own answers for it: what is left, and whether it is enough. -/
import Derived.Test.YtpicjcophjekpaaTk
import Derived.Test.YtpicjcophjekpaaSt
namespace Go.Proofs.Ytpicjcophjekpaa.Bu
open Go.RowKit St Go.Sort

def enough (a b c : Int) : Bool := decide (0 < Tk.sub a b ∧ Tk.clamp c ≤ Tk.sub a b)

set_option maxHeartbeats 400000 in
theorem left_any (a b : Int) (w : World) :
    Calls Try.prog 51 #[.int .i64 a, .int .i64 b] w fun e w' => e = .returned (.int .i64 (Tk.sub a b)) ∧ w = w' := by
  go_enter Try.func51, Try.ntmps51
  go_wp2_with (go_at_call 57; refine (Tk.sub_any _ _ _).mono ?_; rintro e w' ⟨rfl, rfl⟩)
  go_ret
  exact ⟨rfl, rfl⟩

/-- what 'enough' is, by the difference and the least under names -/
theorem enough_of {a b c x y : Int} (hx : Tk.sub a b = x) (hy : Tk.clamp c = y) : enough a b c = decide (0 < x ∧ y ≤ x) := by unfold enough; rw [hx, hy]

set_option maxHeartbeats 400000 in
theorem enough_any (a b c : Int) (w : World) :
    Calls Try.prog 42 #[.int .i64 a, .int .i64 b, .int .i64 c] w fun e w' => e = .returned (.bool (enough a b c)) ∧ w = w' := by
  obtain ⟨x, hx⟩ : ∃ x, Tk.sub a b = x := ⟨_, rfl⟩
  obtain ⟨y, hy⟩ : ∃ y, Tk.clamp c = y := ⟨_, rfl⟩
  have HE := Lib.hid (enough_of hx hy)
  have C1 := Lib.hid (fun w => hx ▸ left_any a b w)
  have C2 := Lib.hid (fun w => hy ▸ Tk.clamp_any c w)
  clear hx hy
  by_cases h1 : 0 < x
  · by_cases h2 : y ≤ x
    · go_enter Try.func42, Try.ntmps42
      go_wp2_with (first | (go_at_call 51; refine (C1.out _).mono ?_; rintro e w' ⟨rfl, rfl⟩) | (go_at_call 32; refine (C2.out _).mono ?_; rintro e w' ⟨rfl, rfl⟩))
      go_ret
      exact ⟨ret_bool (by rw [HE.out]; simp [h1, h2]), rfl⟩
    · go_enter Try.func42, Try.ntmps42
      go_wp2_with (first | (go_at_call 51; refine (C1.out _).mono ?_; rintro e w' ⟨rfl, rfl⟩) | (go_at_call 32; refine (C2.out _).mono ?_; rintro e w' ⟨rfl, rfl⟩))
      go_ret
      exact ⟨ret_bool (by rw [HE.out]; simp [h1]), rfl⟩
  · go_enter Try.func42, Try.ntmps42
    go_wp2_with (first | (go_at_call 51; refine (C1.out _).mono ?_; rintro e w' ⟨rfl, rfl⟩) | (go_at_call 32; refine (C2.out _).mono ?_; rintro e w' ⟨rfl, rfl⟩))
    go_ret
    exact ⟨ret_bool (by rw [HE.out]; simp; omega), rfl⟩

set_option maxHeartbeats 400000 in
theorem renough_any (a b c : Int) (w : World) :
    Calls Try.prog 45 #[.int .i64 a, .int .i64 b, .int .i64 c] w fun e w' => e = .returned (.bool (enough a b c)) ∧ w = w' := by
  obtain ⟨x, hx⟩ : ∃ x, Tk.sub a b = x := ⟨_, rfl⟩
  obtain ⟨y, hy⟩ : ∃ y, Tk.clamp c = y := ⟨_, rfl⟩
  have hx0 : 0 ≤ x := hx ▸ Tk.sub_lo a b
  have HE := Lib.hid (enough_of hx hy)
  have C1 := Lib.hid (fun w => hx ▸ Tk.rsub_any a b w)
  have C2 := Lib.hid (fun w => hy ▸ Tk.rclamp_any c w)
  clear hx hy
  by_cases h1 : x = 0
  · have hb : (x != 0) = false := by simp [h1]
    have H1 := Lib.hid h1
    clear h1
    go_enter Try.func45, Try.ntmps45
    go_wp2_with (first | (go_at_call 54; refine (C1.out _).mono ?_; rintro e w' ⟨rfl, rfl⟩) | (go_at_call 17; refine (C2.out _).mono ?_; rintro e w' ⟨rfl, rfl⟩))
    go_ret
    exact ⟨ret_bool (by rw [HE.out]; simp [H1.out]), rfl⟩
  · have hb : (x != 0) = true := by simpa using h1
    have H1 := Lib.hid (show 0 < x by omega)
    clear h1
    by_cases h2 : y ≤ x
    · go_enter Try.func45, Try.ntmps45
      go_wp2_with (first | (go_at_call 54; refine (C1.out _).mono ?_; rintro e w' ⟨rfl, rfl⟩) | (go_at_call 17; refine (C2.out _).mono ?_; rintro e w' ⟨rfl, rfl⟩))
      go_ret
      exact ⟨ret_bool (by rw [HE.out]; simp [H1.out, h2]), rfl⟩
    · go_enter Try.func45, Try.ntmps45
      go_wp2_with (first | (go_at_call 54; refine (C1.out _).mono ?_; rintro e w' ⟨rfl, rfl⟩) | (go_at_call 17; refine (C2.out _).mono ?_; rintro e w' ⟨rfl, rfl⟩))
      go_ret
      exact ⟨ret_bool (by rw [HE.out]; simp [H1.out]), rfl⟩

end Go.Proofs.Ytpicjcophjekpaa.Bu
