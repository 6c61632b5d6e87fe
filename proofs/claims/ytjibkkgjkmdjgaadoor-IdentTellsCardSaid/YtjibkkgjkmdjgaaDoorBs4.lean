/- Contracts of package bytes' reader: texts, truths, what is left, its end; and of a nil one. -/
import Derived.Test.YtjibkkgjkmdjgaaDoorBs3
namespace Go.Proofs.YtjibkkgjkmdjgaaDoor.Bs
open Go.RowKit St Go.Sort BsM
set_option linter.unusedVariables false


theorem flag_hi {s : S} (h : 1 < numV s 1) : flagV s = false ∧ flagS s = failS (numS s 1) 5 := by
  constructor
  · simp [flagV]; omega
  · unfold flagS; rw [if_pos h]
theorem flag_one {s : S} (h : numV s 1 = 1) : flagV s = true ∧ flagS s = numS s 1 := by
  constructor
  · simp [flagV, h]
  · unfold flagS; rw [if_neg (by omega)]
theorem flag_zero {s : S} (h : numV s 1 = 0) : flagV s = false ∧ flagS s = numS s 1 := by
  constructor
  · simp [flagV, h]
  · unfold flagS; rw [if_neg (by omega)]



theorem left_any (b : Nat) (s : S) (w : World) (hr : Rd w b s) :
    Calls Tryd.prog 41 #[.pointer (some ⟨b, 0, none⟩)] w fun e w' => e = .returned (.int .i64 (s.1.length : Int)) ∧ w = w' := by
  obtain ⟨D, hc0, hc1, hf0, hf1, hD, hDs, hset⟩ := hr.open
  clear hr
  go_enter Tryd.func41, Tryd.ntmps41
  go_wp2_with fail
  go_ret
  exact ⟨ret_int (by rw [hDs.out]), rfl⟩

theorem end_yes {s : S} (h : 0 < s.1.length) : endS s = failS s 5 := by unfold endS; rw [if_pos h]
theorem end_no {s : S} (h : s.1.length = 0) : endS s = s := by unfold endS; rw [if_neg (by omega)]

set_option maxHeartbeats 400000 in
theorem end_any (b : Nat) (s : S) (w : World) (hr : Rd w b s) :
    Calls Tryd.prog 28 #[.pointer (some ⟨b, 0, none⟩)] w (Does b w (.int .i64 (endV s)) (endS s)) := by
  obtain ⟨D, hc0, hc1, hf0, hf1, hD, hDs, hset⟩ := hr.open
  by_cases h : 0 < D.size
  · have hE := Lib.hid (end_yes (s := s) (by rw [← hDs.out]; exact h))
    have HC := Lib.hid (fail_any b s 5 w hr)
    clear hr
    go_enter Tryd.func28, Tryd.ntmps28
    go_wp2_with (go_at_call 43; refine HC.out.mono ?_; rintro e w1 ⟨rfl, hr1, ho1⟩; obtain ⟨D2, hd0, hd1, hg0, hg1, _⟩ := hr1.open)
    go_ret
    exact ⟨ret_int (by show _ = (endS s).2; rw [hE.out]), by rw [hE.out]; exact hr1, ho1⟩
  · have hE := Lib.hid (end_no (s := s) (by rw [← hDs.out]; omega))
    have h2 : D.size ≤ 0 := by omega
    have HR := Lib.hid hr
    clear hr h
    go_enter Tryd.func28, Tryd.ntmps28
    go_wp2_with fail
    go_ret
    exact ⟨ret_int (by show _ = (endS s).2; rw [hE.out]), by rw [hE.out]; exact HR.out, Only.refl _ _⟩

/-! ### a nil reader -/
set_option maxHeartbeats 400000 in
theorem rdnum_nil (k : Int) (w : World) :
    Calls Tryd.prog 42 #[.pointer none, .int .i64 k] w fun e w' => e = .returned (.int .i64 0) ∧ w = w' := by
  have hok := right_any k w
  by_cases hk : okw k = true
  · rw [hk] at hok
    have HK := Lib.hid hok
    have HC := Lib.hid (take_nil k w (fail_nil 3 w))
    clear hok hk
    go_enter Tryd.func42, Tryd.ntmps42
    go_wp2_with (first | (go_at_call 46; refine HK.out.mono ?_; rintro e w' ⟨rfl, rfl⟩) | (go_at_call 50; refine HC.out.mono ?_; rintro e w' ⟨rfl, rfl⟩))
    go_loop [6, 18] (fun n i => i = .int .i64 0 ∧ n = .int .i64 0) (fun _ _ => 0)
    case atStart => exact ⟨rfl, rfl⟩
    case round =>
      obtain ⟨rfl, rfl⟩ := hrel
      go_wp2_with fail
      go_ret
      exact ⟨rfl, rfl⟩
  · have hk' : okw k = false := by simpa using hk
    rw [hk'] at hok
    have HK := Lib.hid hok
    have HC := Lib.hid (fail_nil 2 w)
    clear hok hk hk'
    go_enter Tryd.func42, Tryd.ntmps42
    go_wp2_with (first | (go_at_call 46; refine HK.out.mono ?_; rintro e w' ⟨rfl, rfl⟩) | (go_at_call 43; refine HC.out.mono ?_; rintro e w' ⟨rfl, rfl⟩))
    go_ret
    exact ⟨rfl, rfl⟩




theorem left_nil (w : World) :
    Calls Tryd.prog 41 #[.pointer none] w fun e w' => e = .returned (.int .i64 0) ∧ w = w' := by
  go_enter Tryd.func41, Tryd.ntmps41
  go_wp2_with fail
  go_ret
  exact ⟨rfl, rfl⟩

theorem end_nil (w : World) :
    Calls Tryd.prog 28 #[.pointer none] w fun e w' => e = .returned (.int .i64 1) ∧ w = w' := by
  go_enter Tryd.func28, Tryd.ntmps28
  go_wp2_with fail
  go_ret
  exact ⟨rfl, rfl⟩

end Go.Proofs.YtjibkkgjkmdjgaaDoor.Bs
