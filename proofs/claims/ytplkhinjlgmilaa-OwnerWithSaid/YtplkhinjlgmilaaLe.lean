/- Contracts of package lease, and of the document's own answers for it: what each function returns, and that it leaves memory as it was. -/
import Derived.Test.YtplkhinjlgmilaaTk
import Derived.Test.YtplkhinjlgmilaaSt
import Derived.Test.YtplkhinjlgmilaaArgI
import Derived.Lib.MinMax
import Derived.LoopTactic
namespace Go.Proofs.Ytplkhinjlgmilaa.Le
open Go.RowKit St Go.Sort Args
set_option linter.unusedVariables false

/-- up to when, when another time is heard -/
def raise (a b : Int) : Int := max (Tk.clamp a) (Tk.clamp b)
/-- when somebody stops -/
def ends (a b : Int) : Int := min (Tk.clamp a) (Tk.clamp b)
/-- must one stop now, and why -/
def over (n d u : Int) : Int := if Tk.clamp d ≤ Tk.clamp n then 4 else if Tk.clamp u ≤ Tk.clamp n then 1 else 0
/-- the least of a time and of so many that were heard -/
def passed (g : Int) (F : Nat → Int) : Nat → Int
  | 0 => g
  | k + 1 => min (passed g F k) (Tk.clamp (F k))

theorem over_one {n d u : Int} (h : Tk.clamp d ≤ Tk.clamp n) : over n d u = 4 := by unfold over; rw [if_pos h]
theorem over_two {n d u : Int} (h : ¬ Tk.clamp d ≤ Tk.clamp n) (h2 : Tk.clamp u ≤ Tk.clamp n) : over n d u = 1 := by unfold over; rw [if_neg h, if_pos h2]
theorem over_none {n d u : Int} (h : ¬ Tk.clamp d ≤ Tk.clamp n) (h2 : ¬ Tk.clamp u ≤ Tk.clamp n) : over n d u = 0 := by unfold over; rw [if_neg h, if_neg h2]
theorem over_yes {n d u : Int} (h : ends d u ≤ Tk.clamp n) : (over n d u != 0) = true := by
  unfold ends at h
  by_cases h1 : Tk.clamp d ≤ Tk.clamp n
  · rw [over_one h1]; rfl
  · rw [over_two h1 (by omega)]; rfl
theorem over_no {n d u : Int} (h : ¬ ends d u ≤ Tk.clamp n) : (over n d u != 0) = false := by
  unfold ends at h
  rw [over_none (by omega) (by omega)]; rfl



set_option maxHeartbeats 400000 in
theorem ends_any (a b : Int) (w : World) :
    Calls Try.prog 37 #[.int .i64 a, .int .i64 b] w fun e w' => e = .returned (.int .i64 (ends a b)) ∧ w = w' := by
  go_enter Try.func37, Try.ntmps37
  go_wp2_with (go_at_call 53; refine (Tk.clamp_any _ _).mono ?_; rintro e w' ⟨rfl, rfl⟩)
  all_goals go_ret
  all_goals exact ⟨Tk.ret_int (by unfold ends; omega), rfl⟩

set_option maxHeartbeats 400000 in
theorem over_any (n d u : Int) (w : World) :
    Calls Try.prog 35 #[.int .i64 n, .int .i64 d, .int .i64 u] w fun e w' => e = .returned (.tuple #[.int .i64 (over n d u), .bool (over n d u != 0)]) ∧ w = w' := by
  by_cases h1 : Tk.clamp d ≤ Tk.clamp n
  · rw [over_one h1]
    go_enter Try.func35, Try.ntmps35
    go_wp2_with (go_at_call 53; refine (Tk.clamp_any _ _).mono ?_; rintro e w' ⟨rfl, rfl⟩)
    go_ret2
    exact ⟨rfl, rfl⟩
  · by_cases h2 : Tk.clamp u ≤ Tk.clamp n
    · rw [over_two h1 h2]
      go_enter Try.func35, Try.ntmps35
      go_wp2_with (go_at_call 53; refine (Tk.clamp_any _ _).mono ?_; rintro e w' ⟨rfl, rfl⟩)
      go_ret2
      exact ⟨rfl, rfl⟩
    · rw [over_none h1 h2]
      go_enter Try.func35, Try.ntmps35
      go_wp2_with (go_at_call 53; refine (Tk.clamp_any _ _).mono ?_; rintro e w' ⟨rfl, rfl⟩)
      go_ret2
      exact ⟨rfl, rfl⟩


set_option maxHeartbeats 400000 in
theorem rends_any (a b : Int) (w : World) :
    Calls Try.prog 38 #[.int .i64 a, .int .i64 b] w fun e w' => e = .returned (.int .i64 (ends a b)) ∧ w = w' := by
  go_enter Try.func38, Try.ntmps38
  go_wp2_with (go_at_call 34; refine (Tk.rclamp_any _ _).mono ?_; rintro e w' ⟨rfl, rfl⟩)
  all_goals go_ret
  all_goals exact ⟨Tk.ret_int (by unfold ends; omega), rfl⟩

set_option maxHeartbeats 400000 in
theorem rover_any (n d u : Int) (w : World) :
    Calls Try.prog 39 #[.int .i64 n, .int .i64 d, .int .i64 u] w fun e w' => e = .returned (.int .i64 (over n d u)) ∧ w = w' := by
  by_cases h1 : Tk.clamp d ≤ Tk.clamp n
  · rw [over_one h1]
    go_enter Try.func39, Try.ntmps39
    go_wp2_with (go_at_call 34; refine (Tk.rclamp_any _ _).mono ?_; rintro e w' ⟨rfl, rfl⟩)
    go_ret
    exact ⟨rfl, rfl⟩
  · by_cases h2 : Tk.clamp u ≤ Tk.clamp n
    · rw [over_two h1 h2]
      go_enter Try.func39, Try.ntmps39
      go_wp2_with (go_at_call 34; refine (Tk.rclamp_any _ _).mono ?_; rintro e w' ⟨rfl, rfl⟩)
      go_ret
      exact ⟨rfl, rfl⟩
    · rw [over_none h1 h2]
      go_enter Try.func39, Try.ntmps39
      go_wp2_with (go_at_call 34; refine (Tk.rclamp_any _ _).mono ?_; rintro e w' ⟨rfl, rfl⟩)
      go_ret
      exact ⟨rfl, rfl⟩

end Go.Proofs.Ytplkhinjlgmilaa.Le
