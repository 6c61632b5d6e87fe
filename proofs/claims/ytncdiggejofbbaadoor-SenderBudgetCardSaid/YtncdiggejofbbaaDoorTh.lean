/- Contracts of package throttle, and of the document's own answers for it: what each function returns, and that it leaves memory as it was. -/
import Derived.Test.YtncdiggejofbbaaDoorSt
import Derived.Lib.MinMax
import Derived.LoopTactic
namespace Go.Proofs.YtncdiggejofbbaaDoor.Th
open Go.RowKit St Go.Sort
set_option linter.unusedVariables false

/-- so many tokens -/
def tk (t : Int) : Int := max 1 (min t 1000)
/-- as much as there may be -/
def full (t : Int) : Int := tk t * 1000
/-- the nearest that there may be -/
def held (h t : Int) : Int := max 0 (min h (full t))
def bad (h t : Int) : Int := max 0 (held h t - 1000)
def good (h t : Int) : Int := min (held h t + 100) (full t)
def may (h t : Int) : Bool := decide (full t < 2 * held h t)
/-- behind so many failures and successes -/
def plays (t : Int) (F : Nat → Bool) : Nat → Int
  | 0 => full t
  | k + 1 => if F k then good (plays t F k) t else bad (plays t F k) t

theorem tk_lo (t : Int) : 1 ≤ tk t := by unfold tk; omega
theorem tk_hi (t : Int) : tk t ≤ 1000 := by unfold tk; omega
theorem full_lo (t : Int) : 1000 ≤ full t := by have := tk_lo t; unfold full; omega
theorem full_hi (t : Int) : full t ≤ 1000000 := by have := tk_hi t; unfold full; omega
theorem held_lo (h t : Int) : 0 ≤ held h t := by unfold held; omega
theorem held_hi (h t : Int) : held h t ≤ full t := by have := full_lo t; unfold held; omega
theorem held_id {h t : Int} (h0 : 0 ≤ h) (h1 : h ≤ full t) : held h t = h := by unfold held; omega
theorem bad_lo (h t : Int) : 0 ≤ bad h t := by unfold bad; omega
theorem bad_hi (h t : Int) : bad h t ≤ full t := by have := held_hi h t; have := full_lo t; unfold bad; omega
theorem good_lo (h t : Int) : 0 ≤ good h t := by have := held_lo h t; have := full_lo t; unfold good; omega
theorem good_hi (h t : Int) : good h t ≤ full t := by unfold good; omega
theorem plays_lo (t : Int) (F : Nat → Bool) : ∀ k, 0 ≤ plays t F k
  | 0 => by have := full_lo t; show 0 ≤ full t; omega
  | k + 1 => by unfold plays; split; exact good_lo _ _; exact bad_lo _ _
theorem plays_hi (t : Int) (F : Nat → Bool) : ∀ k, plays t F k ≤ full t
  | 0 => Int.le_refl _
  | k + 1 => by unfold plays; split; exact good_hi _ _; exact bad_hi _ _

set_option maxHeartbeats 400000 in
theorem full_any (t : Int) (w : World) :
    Calls Tryd.prog 88 #[.int .i64 t] w fun e w' => e = .returned (.int .i64 (full t)) ∧ w = w' := by
  go_enter Tryd.func88, Tryd.ntmps88
  go_wp2
  all_goals go_ret
  all_goals exact ⟨ret_int (by unfold full tk; omega), rfl⟩

set_option maxHeartbeats 400000 in
theorem rfull_any (t : Int) (w : World) :
    Calls Tryd.prog 92 #[.int .i64 t] w fun e w' => e = .returned (.int .i64 (full t)) ∧ w = w' := by
  go_enter Tryd.func92, Tryd.ntmps92
  go_wp2
  all_goals go_ret
  all_goals exact ⟨ret_int (by unfold full tk; omega), rfl⟩

set_option maxHeartbeats 400000 in
theorem held_any (h t : Int) (w : World) :
    Calls Tryd.prog 71 #[.int .i64 h, .int .i64 t] w fun e w' => e = .returned (.int .i64 (held h t)) ∧ w = w' := by
  obtain ⟨f, hf⟩ : ∃ f, full t = f := ⟨_, rfl⟩
  have HE := Lib.hid (show held h t = max 0 (min h f) by rw [← hf]; rfl)
  have C1 := Lib.hid (fun w => hf ▸ full_any t w)
  clear hf
  go_enter Tryd.func71, Tryd.ntmps71
  go_wp2_with (go_at_call 88; refine (C1.out _).mono ?_; rintro e w' ⟨rfl, rfl⟩)
  all_goals go_ret
  all_goals exact ⟨ret_int HE.out.symm, rfl⟩

set_option maxHeartbeats 400000 in
theorem clean_any (h t : Int) (w : World) :
    Calls Tryd.prog 73 #[.int .i64 h, .int .i64 t] w fun e w' => e = .returned (.int .i64 (held h t)) ∧ w = w' := by
  obtain ⟨f, hf⟩ : ∃ f, full t = f := ⟨_, rfl⟩
  have hf0 : 1000 ≤ f := hf ▸ full_lo t
  have HE := Lib.hid (show held h t = max 0 (min h f) by rw [← hf]; rfl)
  have C1 := Lib.hid (fun w => hf ▸ rfull_any t w)
  clear hf
  go_enter Tryd.func73, Tryd.ntmps73
  go_wp2_with (go_at_call 92; refine (C1.out _).mono ?_; rintro e w' ⟨rfl, rfl⟩)
  all_goals go_ret
  all_goals exact ⟨ret_int (by rw [HE.out]; omega), rfl⟩

set_option maxHeartbeats 400000 in
theorem bad_any (h t : Int) (w : World) :
    Calls Tryd.prog 43 #[.int .i64 h, .int .i64 t] w fun e w' => e = .returned (.int .i64 (bad h t)) ∧ w = w' := by
  obtain ⟨x, hx⟩ : ∃ x, held h t = x := ⟨_, rfl⟩
  have hx0 : 0 ≤ x := hx ▸ held_lo h t
  have hx1 : x ≤ 1000000 := hx ▸ Int.le_trans (held_hi h t) (full_hi t)
  have HE := Lib.hid (show bad h t = max 0 (x - 1000) by rw [← hx]; rfl)
  have C1 := Lib.hid (fun w => hx ▸ held_any h t w)
  clear hx
  go_enter Tryd.func43, Tryd.ntmps43
  go_wp2_with (go_at_call 71; refine (C1.out _).mono ?_; rintro e w' ⟨rfl, rfl⟩)
  all_goals go_ret
  all_goals exact ⟨ret_int HE.out.symm, rfl⟩

set_option maxHeartbeats 400000 in
theorem rbad_any (h t : Int) (w : World) :
    Calls Tryd.prog 46 #[.int .i64 h, .int .i64 t] w fun e w' => e = .returned (.int .i64 (bad h t)) ∧ w = w' := by
  obtain ⟨x, hx⟩ : ∃ x, held h t = x := ⟨_, rfl⟩
  have hx0 : 0 ≤ x := hx ▸ held_lo h t
  have hx1 : x ≤ 1000000 := hx ▸ Int.le_trans (held_hi h t) (full_hi t)
  have HE := Lib.hid (show bad h t = max 0 (x - 1000) by rw [← hx]; rfl)
  have C1 := Lib.hid (fun w => hx ▸ clean_any h t w)
  clear hx
  go_enter Tryd.func46, Tryd.ntmps46
  go_wp2_with (go_at_call 73; refine (C1.out _).mono ?_; rintro e w' ⟨rfl, rfl⟩)
  all_goals go_ret
  all_goals exact ⟨ret_int (by rw [HE.out]; omega), rfl⟩



set_option maxHeartbeats 400000 in
theorem may_any (h t : Int) (w : World) :
    Calls Tryd.prog 91 #[.int .i64 h, .int .i64 t] w fun e w' => e = .returned (.bool (may h t)) ∧ w = w' := by
  obtain ⟨x, hx⟩ : ∃ x, held h t = x := ⟨_, rfl⟩
  obtain ⟨f, hf⟩ : ∃ f, full t = f := ⟨_, rfl⟩
  have hf1 : f ≤ 1000000 := hf ▸ full_hi t
  have hx0 : 0 ≤ x := hx ▸ held_lo h t
  have hx1 : x ≤ f := hf ▸ hx ▸ held_hi h t
  have HE := Lib.hid (show may h t = decide (f < 2 * x) by rw [← hx, ← hf]; rfl)
  have C1 := Lib.hid (fun w => hx ▸ held_any h t w)
  have C2 := Lib.hid (fun w => hf ▸ full_any t w)
  clear hx hf
  go_enter Tryd.func91, Tryd.ntmps91
  go_wp2_with (first | (go_at_call 71; refine (C1.out _).mono ?_; rintro e w' ⟨rfl, rfl⟩) | (go_at_call 88; refine (C2.out _).mono ?_; rintro e w' ⟨rfl, rfl⟩))
  all_goals go_ret
  all_goals exact ⟨ret_bool (by rw [HE.out]), rfl⟩

set_option maxHeartbeats 400000 in
theorem rmay_any (h t : Int) (w : World) :
    Calls Tryd.prog 93 #[.int .i64 h, .int .i64 t] w fun e w' => e = .returned (.bool (may h t)) ∧ w = w' := by
  obtain ⟨x, hx⟩ : ∃ x, held h t = x := ⟨_, rfl⟩
  obtain ⟨f, hf⟩ : ∃ f, full t = f := ⟨_, rfl⟩
  have hf0 : 1000 ≤ f := hf ▸ full_lo t
  have hf1 : f ≤ 1000000 := hf ▸ full_hi t
  have hf2 : f % 2 = 0 := by rw [← hf]; unfold full; omega
  have hx0 : 0 ≤ x := hx ▸ held_lo h t
  have HE := Lib.hid (show may h t = decide (f / 2 < x) by unfold may; rw [hx, hf]; exact decide_eq_decide.2 (by omega))
  have C1 := Lib.hid (fun w => hx ▸ clean_any h t w)
  have C2 := Lib.hid (fun w => hf ▸ rfull_any t w)
  clear hx hf
  go_enter Tryd.func93, Tryd.ntmps93
  go_wp2_with (first | (go_at_call 73; refine (C1.out _).mono ?_; rintro e w' ⟨rfl, rfl⟩) | (go_at_call 92; refine (C2.out _).mono ?_; rintro e w' ⟨rfl, rfl⟩))
  all_goals go_ret
  all_goals exact ⟨ret_bool (by rw [HE.out]), rfl⟩

end Go.Proofs.YtncdiggejofbbaaDoor.Th
