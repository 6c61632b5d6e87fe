/- Contracts of package bytes' reader: texts, truths, what is left, its end; and of a nil one. -/
import Derived.Test.YtpgfaklnbehmhaaDoorBs3
namespace Go.Proofs.YtpgfaklnbehmhaaDoor.Bs
open Go.RowKit St Go.Sort BsM
set_option linter.unusedVariables false

set_option maxHeartbeats 400000 in
theorem rdtext_any (b : Nat) (s : S) (w : World) (hr : Rd w b s) :
    Calls Tryd.prog 67 #[.pointer (some ⟨b, 0, none⟩)] w (Does b w (.string ⟨(textV s).toArray⟩) (textS s)) := by
  have h1 := rdnum_any b s 1 w hr
  have h2 : ∀ w1, Rd w1 b (numS s 1) → Only b w w1 → Calls Tryd.prog 66 #[.pointer (some ⟨b, 0, none⟩), .int .i64 (numV s 1 : Int)] w1 (Does b w (.string ⟨(textV s).toArray⟩) (textS s)) :=
    fun w1 hr1 ho1 => (take_any b (numS s 1) (numV s 1) w1 hr1).mono fun _ _ ⟨he, hr2, ho2⟩ => ⟨he, hr2, ho1.trans ho2⟩
  obtain ⟨z, hz⟩ : ∃ z : Int, (numV s 1 : Int) = z := ⟨_, rfl⟩
  rw [hz] at h1
  rw [hz] at h2
  have H1 := Lib.hid h1
  have H2 := Lib.hid h2
  clear h1 h2 hz hr
  go_enter Tryd.func67, Tryd.ntmps67
  go_wp2_with (first | (go_at_call 51; refine H1.out.mono ?_; rintro e w1 ⟨rfl, hr1, ho1⟩) | (go_at_call 66; refine (H2.out _ (by assumption) (by assumption)).mono ?_; rintro e w2 ⟨rfl, hr2, ho2⟩))
  go_ret
  exact ⟨rfl, hr2, ho2⟩

theorem flag_hi {s : S} (h : 1 < numV s 1) : flagV s = false ∧ flagS s = failS (numS s 1) 5 := by
  constructor
  · simp [flagV]; omega
  · unfold flagS; rw [if_pos h]
theorem flag_one {s : S} (h : numV s 1 = 1) : flagV s = true ∧ flagS s = numS s 1 := by
  constructor
  · simp [flagV, h]
  · unfold flagS; rw [if_neg (by omega)]
theorem flag_zero {s : S} (h : numV s 1 = 0) : flagV s = false ∧ flagS s = numS s 1 := by
  constructor
  · simp [flagV, h]
  · unfold flagS; rw [if_neg (by omega)]

set_option maxHeartbeats 400000 in
theorem rdflag_any (b : Nat) (s : S) (w : World) (hr : Rd w b s) :
    Calls Tryd.prog 53 #[.pointer (some ⟨b, 0, none⟩)] w (Does b w (.bool (flagV s)) (flagS s)) := by
  have h1 := rdnum_any b s 1 w hr
  have hl := numV_one_lt s
  by_cases hi : 1 < numV s 1
  · have hF := Lib.hid (flag_hi hi)
    have h2 : ∀ w1, Rd w1 b (numS s 1) → Only b w w1 → Calls Tryd.prog 54 #[.pointer (some ⟨b, 0, none⟩), .int .i64 5] w1 (Does b w (.tuple #[]) (failS (numS s 1) 5)) :=
      fun w1 hr1 ho1 => (fail_any b (numS s 1) 5 w1 hr1).mono fun _ _ ⟨he, hr2, ho2⟩ => ⟨he, hr2, ho1.trans ho2⟩
    obtain ⟨z, hz⟩ : ∃ z : Int, (numV s 1 : Int) = z := ⟨_, rfl⟩
    have hz1 : 1 < z := by omega
    have hz2 : (z == 1) = false := by simp; omega
    rw [hz] at h1
    have H1 := Lib.hid h1
    have H2 := Lib.hid h2
    clear h1 h2 hz hr hi hl
    go_enter Tryd.func53, Tryd.ntmps53
    go_wp2_with (first | (go_at_call 51; refine H1.out.mono ?_; rintro e w1 ⟨rfl, hr1, ho1⟩) | (go_at_call 54; refine (H2.out _ (by assumption) (by assumption)).mono ?_; rintro e w2 ⟨rfl, hr2, ho2⟩))
    go_ret
    exact ⟨ret_bool hF.out.1.symm, by rw [hF.out.2]; exact hr2, ho2⟩
  · by_cases h0 : numV s 1 = 1
    · have hF := Lib.hid (flag_one h0)
      rw [h0] at h1
      have H1 := Lib.hid (show Calls Tryd.prog 51 #[.pointer (some ⟨b, 0, none⟩), .int .i64 1] w (Does b w (.int .i64 1) (numS s 1)) from h1)
      clear h1 hi h0 hr hl
      go_enter Tryd.func53, Tryd.ntmps53
      go_wp2_with (go_at_call 51; refine H1.out.mono ?_; rintro e w1 ⟨rfl, hr1, ho1⟩)
      go_ret
      exact ⟨ret_bool hF.out.1.symm, by rw [hF.out.2]; exact hr1, ho1⟩
    · have h00 : numV s 1 = 0 := by omega
      have hF := Lib.hid (flag_zero h00)
      rw [h00] at h1
      have H1 := Lib.hid (show Calls Tryd.prog 51 #[.pointer (some ⟨b, 0, none⟩), .int .i64 1] w (Does b w (.int .i64 0) (numS s 1)) from h1)
      clear h1 hi h0 h00 hr hl
      go_enter Tryd.func53, Tryd.ntmps53
      go_wp2_with (go_at_call 51; refine H1.out.mono ?_; rintro e w1 ⟨rfl, hr1, ho1⟩)
      go_ret
      exact ⟨ret_bool hF.out.1.symm, by rw [hF.out.2]; exact hr1, ho1⟩

theorem left_any (b : Nat) (s : S) (w : World) (hr : Rd w b s) :
    Calls Tryd.prog 69 #[.pointer (some ⟨b, 0, none⟩)] w fun e w' => e = .returned (.int .i64 (s.1.length : Int)) ∧ w = w' := by
  obtain ⟨D, hc0, hc1, hf0, hf1, hD, hDs, hset⟩ := hr.open
  clear hr
  go_enter Tryd.func69, Tryd.ntmps69
  go_wp2_with fail
  go_ret
  exact ⟨ret_int (by rw [hDs.out]), rfl⟩

theorem end_yes {s : S} (h : 0 < s.1.length) : endS s = failS s 5 := by unfold endS; rw [if_pos h]
theorem end_no {s : S} (h : s.1.length = 0) : endS s = s := by unfold endS; rw [if_neg (by omega)]

set_option maxHeartbeats 400000 in
theorem end_any (b : Nat) (s : S) (w : World) (hr : Rd w b s) :
    Calls Tryd.prog 30 #[.pointer (some ⟨b, 0, none⟩)] w (Does b w (.int .i64 (endV s)) (endS s)) := by
  obtain ⟨D, hc0, hc1, hf0, hf1, hD, hDs, hset⟩ := hr.open
  by_cases h : 0 < D.size
  · have hE := Lib.hid (end_yes (s := s) (by rw [← hDs.out]; exact h))
    have HC := Lib.hid (fail_any b s 5 w hr)
    clear hr
    go_enter Tryd.func30, Tryd.ntmps30
    go_wp2_with (go_at_call 54; refine HC.out.mono ?_; rintro e w1 ⟨rfl, hr1, ho1⟩; obtain ⟨D2, hd0, hd1, hg0, hg1, _⟩ := hr1.open)
    go_ret
    exact ⟨ret_int (by show _ = (endS s).2; rw [hE.out]), by rw [hE.out]; exact hr1, ho1⟩
  · have hE := Lib.hid (end_no (s := s) (by rw [← hDs.out]; omega))
    have h2 : D.size ≤ 0 := by omega
    have HR := Lib.hid hr
    clear hr h
    go_enter Tryd.func30, Tryd.ntmps30
    go_wp2_with fail
    go_ret
    exact ⟨ret_int (by show _ = (endS s).2; rw [hE.out]), by rw [hE.out]; exact HR.out, Only.refl _ _⟩

/-! ### a nil reader -/
set_option maxHeartbeats 400000 in
theorem rdnum_nil (k : Int) (w : World) :
    Calls Tryd.prog 51 #[.pointer none, .int .i64 k] w fun e w' => e = .returned (.int .i64 0) ∧ w = w' := by
  have hok := right_any k w
  by_cases hk : okw k = true
  · rw [hk] at hok
    have HK := Lib.hid hok
    have HC := Lib.hid (take_nil k w (fail_nil 3 w))
    clear hok hk
    go_enter Tryd.func51, Tryd.ntmps51
    go_wp2_with (first | (go_at_call 64; refine HK.out.mono ?_; rintro e w' ⟨rfl, rfl⟩) | (go_at_call 66; refine HC.out.mono ?_; rintro e w' ⟨rfl, rfl⟩))
    go_loop [6, 18] (fun n i => i = .int .i64 0 ∧ n = .int .i64 0) (fun _ _ => 0)
    case atStart => exact ⟨rfl, rfl⟩
    case round =>
      obtain ⟨rfl, rfl⟩ := hrel
      go_wp2_with fail
      go_ret
      exact ⟨rfl, rfl⟩
  · have hk' : okw k = false := by simpa using hk
    rw [hk'] at hok
    have HK := Lib.hid hok
    have HC := Lib.hid (fail_nil 2 w)
    clear hok hk hk'
    go_enter Tryd.func51, Tryd.ntmps51
    go_wp2_with (first | (go_at_call 64; refine HK.out.mono ?_; rintro e w' ⟨rfl, rfl⟩) | (go_at_call 54; refine HC.out.mono ?_; rintro e w' ⟨rfl, rfl⟩))
    go_ret
    exact ⟨rfl, rfl⟩

theorem rdtext_nil (w : World) :
    Calls Tryd.prog 67 #[.pointer none] w fun e w' => e = .returned (.string ⟨#[]⟩) ∧ w = w' := by
  have H1 := Lib.hid (rdnum_nil 1 w)
  have H2 := Lib.hid (take_nil 0 w (fail_nil 3 w))
  go_enter Tryd.func67, Tryd.ntmps67
  go_wp2_with (first | (go_at_call 51; refine H1.out.mono ?_; rintro e w1 ⟨rfl, rfl⟩) | (go_at_call 66; refine H2.out.mono ?_; rintro e w2 ⟨rfl, rfl⟩))
  go_ret
  exact ⟨rfl, rfl⟩

theorem rdflag_nil (w : World) :
    Calls Tryd.prog 53 #[.pointer none] w fun e w' => e = .returned (.bool false) ∧ w = w' := by
  have H1 := Lib.hid (rdnum_nil 1 w)
  go_enter Tryd.func53, Tryd.ntmps53
  go_wp2_with (go_at_call 51; refine H1.out.mono ?_; rintro e w1 ⟨rfl, rfl⟩)
  go_ret
  exact ⟨rfl, rfl⟩

theorem left_nil (w : World) :
    Calls Tryd.prog 69 #[.pointer none] w fun e w' => e = .returned (.int .i64 0) ∧ w = w' := by
  go_enter Tryd.func69, Tryd.ntmps69
  go_wp2_with fail
  go_ret
  exact ⟨rfl, rfl⟩

theorem end_nil (w : World) :
    Calls Tryd.prog 30 #[.pointer none] w fun e w' => e = .returned (.int .i64 1) ∧ w = w' := by
  go_enter Tryd.func30, Tryd.ntmps30
  go_wp2_with fail
  go_ret
  exact ⟨rfl, rfl⟩

end Go.Proofs.YtpgfaklnbehmhaaDoor.Bs
