/- Contracts of package lease, and of the document's own answers for it: what each function returns, and that it leaves memory as it was. -/
import Derived.Test.YtncdiggejofbbaaGreatDoorTk
import Derived.Test.YtncdiggejofbbaaGreatDoorSt
import Derived.Test.YtncdiggejofbbaaGreatDoorArgI
import Derived.Lib.MinMax
import Derived.LoopTactic
namespace Go.Proofs.YtncdiggejofbbaaGreatDoor.Le
open Go.RowKit St Go.Sort Args
set_option linter.unusedVariables false

/-- up to when, when another time is heard -/
def raise (a b : Int) : Int := max (Tk.clamp a) (Tk.clamp b)
/-- when somebody stops -/
def ends (a b : Int) : Int := min (Tk.clamp a) (Tk.clamp b)
/-- must one stop now, and why -/
def over (n d u : Int) : Int := if Tk.clamp d ≤ Tk.clamp n then 4 else if Tk.clamp u ≤ Tk.clamp n then 1 else 0
/-- the least of a time and of so many that were heard -/
def passed (g : Int) (F : Nat → Int) : Nat → Int
  | 0 => g
  | k + 1 => min (passed g F k) (Tk.clamp (F k))

theorem over_one {n d u : Int} (h : Tk.clamp d ≤ Tk.clamp n) : over n d u = 4 := by unfold over; rw [if_pos h]
theorem over_two {n d u : Int} (h : ¬ Tk.clamp d ≤ Tk.clamp n) (h2 : Tk.clamp u ≤ Tk.clamp n) : over n d u = 1 := by unfold over; rw [if_neg h, if_pos h2]
theorem over_none {n d u : Int} (h : ¬ Tk.clamp d ≤ Tk.clamp n) (h2 : ¬ Tk.clamp u ≤ Tk.clamp n) : over n d u = 0 := by unfold over; rw [if_neg h, if_neg h2]
theorem over_yes {n d u : Int} (h : ends d u ≤ Tk.clamp n) : (over n d u != 0) = true := by
  unfold ends at h
  by_cases h1 : Tk.clamp d ≤ Tk.clamp n
  · rw [over_one h1]; rfl
  · rw [over_two h1 (by omega)]; rfl
theorem over_no {n d u : Int} (h : ¬ ends d u ≤ Tk.clamp n) : (over n d u != 0) = false := by
  unfold ends at h
  rw [over_none (by omega) (by omega)]; rfl








end Go.Proofs.YtncdiggejofbbaaGreatDoor.Le
