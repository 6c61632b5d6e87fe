/- Walks of the laws of layer 1: each returns true, and leaves memory as it was. -/
import Derived.Test.YtaajdaebcgjlpaaTk3
namespace Go.Proofs.Ytaajdaebcgjlpaa.Tk
open Go.RowKit

/-! TicksTell -/
set_option maxHeartbeats 1000000 in
theorem ticksTell_any (a b c : Int) (w : World) :
    Calls Try.prog 3 #[.int .i64 a, .int .i64 b, .int .i64 c] w fun e w' => e = .returned (.bool true) ∧ w = w' := by
  go_enter Try.func3, Try.ntmps3
  go_wp2_with (first | (go_at_call 7; refine (clamp_any _ _).mono ?_; rintro e w' ⟨rfl, rfl⟩) | (go_at_call 9; refine (add_any _ _ _).mono ?_; rintro e w' ⟨rfl, rfl⟩) | (go_at_call 11; refine (sub_any _ _ _).mono ?_; rintro e w' ⟨rfl, rfl⟩) | (go_at_call 13; refine (mul_any _ _ _).mono ?_; rintro e w' ⟨rfl, rfl⟩) | (go_at_call 15; refine (up_any _ _ _).mono ?_; rintro e w' ⟨rfl, rfl⟩) | (go_at_call 17; refine (past_any _ _ _ _).mono ?_; rintro e w' ⟨rfl, rfl⟩) | (go_at_call 8; refine (rclamp_any _ _).mono ?_; rintro e w' ⟨rfl, rfl⟩) | (go_at_call 10; refine (radd_any _ _ _).mono ?_; rintro e w' ⟨rfl, rfl⟩) | (go_at_call 12; refine (rsub_any _ _ _).mono ?_; rintro e w' ⟨rfl, rfl⟩) | (go_at_call 14; refine (rmul_any _ _ _).mono ?_; rintro e w' ⟨rfl, rfl⟩) | (go_at_call 16; refine (rup_any _ _ _).mono ?_; rintro e w' ⟨rfl, rfl⟩) | (go_at_call 18; refine (rpast_any _ _ _ _).mono ?_; rintro e w' ⟨rfl, rfl⟩) | (go_at_call 19; refine (awake_any _).mono ?_; rintro e w' ⟨rfl, rfl⟩))
  go_ret
  exact ⟨rfl, rfl⟩

/-! TicksSums -/
set_option maxHeartbeats 1000000 in
theorem ticksSums_any (a b c : Int) (w : World) :
    Calls Try.prog 4 #[.int .i64 a, .int .i64 b, .int .i64 c] w fun e w' => e = .returned (.bool true) ∧ w = w' := by
  have h1 : (add a b != add b a) = false := by rw [add_comm]; simp
  have h2 : (add (add a b) c != add a (add b c)) = false := by rw [add_assoc]; simp
  have h3 := add_ge a b
  by_cases h : add a b = 1125899906842624
  · have h4 : (add a b == 1125899906842624) = true := by rw [h]; rfl
    clear h
    go_enter Try.func4, Try.ntmps4
    go_wp2_with (first | (go_at_call 7; refine (clamp_any _ _).mono ?_; rintro e w' ⟨rfl, rfl⟩) | (go_at_call 9; refine (add_any _ _ _).mono ?_; rintro e w' ⟨rfl, rfl⟩) | (go_at_call 11; refine (sub_any _ _ _).mono ?_; rintro e w' ⟨rfl, rfl⟩) | (go_at_call 13; refine (mul_any _ _ _).mono ?_; rintro e w' ⟨rfl, rfl⟩) | (go_at_call 15; refine (up_any _ _ _).mono ?_; rintro e w' ⟨rfl, rfl⟩) | (go_at_call 17; refine (past_any _ _ _ _).mono ?_; rintro e w' ⟨rfl, rfl⟩) | (go_at_call 19; refine (awake_any _).mono ?_; rintro e w' ⟨rfl, rfl⟩))
    go_ret
    exact ⟨rfl, rfl⟩
  · have h4 : (add a b == 1125899906842624) = false := beq_eq_false_iff_ne.2 h
    have h5 : (sub (add a b) b == clamp a) = true := by rw [sub_add a b h]; simp
    clear h
    go_enter Try.func4, Try.ntmps4
    go_wp2_with (first | (go_at_call 7; refine (clamp_any _ _).mono ?_; rintro e w' ⟨rfl, rfl⟩) | (go_at_call 9; refine (add_any _ _ _).mono ?_; rintro e w' ⟨rfl, rfl⟩) | (go_at_call 11; refine (sub_any _ _ _).mono ?_; rintro e w' ⟨rfl, rfl⟩) | (go_at_call 13; refine (mul_any _ _ _).mono ?_; rintro e w' ⟨rfl, rfl⟩) | (go_at_call 15; refine (up_any _ _ _).mono ?_; rintro e w' ⟨rfl, rfl⟩) | (go_at_call 17; refine (past_any _ _ _ _).mono ?_; rintro e w' ⟨rfl, rfl⟩) | (go_at_call 19; refine (awake_any _).mono ?_; rintro e w' ⟨rfl, rfl⟩))
    go_ret
    exact ⟨rfl, rfl⟩

/-! TicksRise -/
set_option maxHeartbeats 1000000 in
theorem ticksRise_any (a b c : Int) (w : World) :
    Calls Try.prog 5 #[.int .i64 a, .int .i64 b, .int .i64 c] w fun e w' => e = .returned (.bool true) ∧ w = w' := by
  rcases Int.lt_or_le b a with h | h
  · have h0 : b ≤ a := by omega
    have h1 := clamp_mono h0
    have h2 := add_mono c h0
    have h3 := sub_mono c h0
    have h4 := sub_anti c h0
    have h5 := mul_mono c h0
    have h6 := up_mono c h0
    go_enter Try.func5, Try.ntmps5
    go_wp2_with (first | (go_at_call 7; refine (clamp_any _ _).mono ?_; rintro e w' ⟨rfl, rfl⟩) | (go_at_call 9; refine (add_any _ _ _).mono ?_; rintro e w' ⟨rfl, rfl⟩) | (go_at_call 11; refine (sub_any _ _ _).mono ?_; rintro e w' ⟨rfl, rfl⟩) | (go_at_call 13; refine (mul_any _ _ _).mono ?_; rintro e w' ⟨rfl, rfl⟩) | (go_at_call 15; refine (up_any _ _ _).mono ?_; rintro e w' ⟨rfl, rfl⟩) | (go_at_call 17; refine (past_any _ _ _ _).mono ?_; rintro e w' ⟨rfl, rfl⟩) | (go_at_call 19; refine (awake_any _).mono ?_; rintro e w' ⟨rfl, rfl⟩))
    go_ret
    exact ⟨rfl, rfl⟩
  · have h1 := clamp_mono h
    have h2 := add_mono c h
    have h3 := sub_mono c h
    have h4 := sub_anti c h
    have h5 := mul_mono c h
    have h6 := up_mono c h
    go_enter Try.func5, Try.ntmps5
    go_wp2_with (first | (go_at_call 7; refine (clamp_any _ _).mono ?_; rintro e w' ⟨rfl, rfl⟩) | (go_at_call 9; refine (add_any _ _ _).mono ?_; rintro e w' ⟨rfl, rfl⟩) | (go_at_call 11; refine (sub_any _ _ _).mono ?_; rintro e w' ⟨rfl, rfl⟩) | (go_at_call 13; refine (mul_any _ _ _).mono ?_; rintro e w' ⟨rfl, rfl⟩) | (go_at_call 15; refine (up_any _ _ _).mono ?_; rintro e w' ⟨rfl, rfl⟩) | (go_at_call 17; refine (past_any _ _ _ _).mono ?_; rintro e w' ⟨rfl, rfl⟩) | (go_at_call 19; refine (awake_any _).mono ?_; rintro e w' ⟨rfl, rfl⟩))
    go_ret
    exact ⟨rfl, rfl⟩

/-! TicksGrain -/
set_option maxHeartbeats 1000000 in
theorem ticksGrain_any (now later t g : Int) (w : World) :
    Calls Try.prog 6 #[.int .i64 now, .int .i64 later, .int .i64 t, .int .i64 g] w fun e w' => e = .returned (.bool true) ∧ w = w' := by
  have h0 := clamp_lo t
  have h1 := up_lo t g
  have h2 := up_lt t g
  have h3 := up_hi t g
  have h4 := clamp_lo g
  have h5 := clamp_hi g
  have h6 : (up (up t g) g != up t g) = false := by rw [up_again]; simp
  have hm : (up t g % grain g == 0) = true ∨ (up t g % grain g == 0) = false ∧ (up t g == 1125899906842624) = true := by
    by_cases h : up t g = 1125899906842624
    · cases up t g % grain g == 0
      · exact Or.inr ⟨rfl, by rw [h]; rfl⟩
      · exact Or.inl rfl
    · exact Or.inl (by rw [up_mod t g h]; rfl)
  have hp : later < now ∨ now ≤ later ∧ (past now t g = false ∨ past now t g = true ∧ past later t g = true) := by
    rcases Int.lt_or_le later now with h | h
    · exact Or.inl h
    · refine Or.inr ⟨h, ?_⟩
      cases hq : past now t g
      · exact Or.inl rfl
      · exact Or.inr ⟨rfl, past_mono t g h hq⟩
  have hlt : decide (up t g < clamp t) = false := by simpa using h1
  have hd1 : 1 < clamp g ∨ clamp g ≤ 1 → decide (grain g ≤ up t g - clamp t) = false := fun _ => by simp; omega
  have hd := hd1 (Int.lt_or_le _ _)
  clear hd1 h2
  rcases Int.lt_or_le 1 (clamp g) with hg | hg
  · rw [grain_of (by omega)] at hd hm
    rcases hm with hm | ⟨hm, hm2⟩
    all_goals
      rcases hp with hp | ⟨hp, hq | ⟨hq, hr⟩⟩
    · go_enter Try.func6, Try.ntmps6
      go_wp2_with (first | (go_at_call 7; refine (clamp_any _ _).mono ?_; rintro e w' ⟨rfl, rfl⟩) | (go_at_call 15; refine (up_any _ _ _).mono ?_; rintro e w' ⟨rfl, rfl⟩) | (go_at_call 17; refine (past_any _ _ _ _).mono ?_; rintro e w' ⟨rfl, rfl⟩) | (go_at_call 19; refine (awake_any _).mono ?_; rintro e w' ⟨rfl, rfl⟩))
      go_ret
      exact ⟨rfl, rfl⟩
    · go_enter Try.func6, Try.ntmps6
      go_wp2_with (first | (go_at_call 7; refine (clamp_any _ _).mono ?_; rintro e w' ⟨rfl, rfl⟩) | (go_at_call 15; refine (up_any _ _ _).mono ?_; rintro e w' ⟨rfl, rfl⟩) | (go_at_call 17; refine (past_any _ _ _ _).mono ?_; rintro e w' ⟨rfl, rfl⟩) | (go_at_call 19; refine (awake_any _).mono ?_; rintro e w' ⟨rfl, rfl⟩))
      go_ret
      exact ⟨rfl, rfl⟩
    · go_enter Try.func6, Try.ntmps6
      go_wp2_with (first | (go_at_call 7; refine (clamp_any _ _).mono ?_; rintro e w' ⟨rfl, rfl⟩) | (go_at_call 15; refine (up_any _ _ _).mono ?_; rintro e w' ⟨rfl, rfl⟩) | (go_at_call 17; refine (past_any _ _ _ _).mono ?_; rintro e w' ⟨rfl, rfl⟩) | (go_at_call 19; refine (awake_any _).mono ?_; rintro e w' ⟨rfl, rfl⟩))
      go_ret
      exact ⟨rfl, rfl⟩
    all_goals
      have c1 := fun w => up_any t g w
      rw [show up t g = 1125899906842624 by simpa using hm2] at hlt hd h1 h6 hm c1
      have C1 := Lib.hid c1
      clear c1 hm2 h3
      go_enter Try.func6, Try.ntmps6
      go_wp2_with fail
      refine (C1.out _).mono ?_; rintro e w' ⟨rfl, rfl⟩
      go_wp2_with (first | (go_at_call 7; refine (clamp_any _ _).mono ?_; rintro e w' ⟨rfl, rfl⟩) | (go_at_call 15; refine (up_any _ _ _).mono ?_; rintro e w' ⟨rfl, rfl⟩) | (go_at_call 17; refine (past_any _ _ _ _).mono ?_; rintro e w' ⟨rfl, rfl⟩) | (go_at_call 19; refine (awake_any _).mono ?_; rintro e w' ⟨rfl, rfl⟩))
      go_ret
      exact ⟨rfl, rfl⟩
  · rw [grain_one hg] at hd
    clear hm
    rcases Int.lt_or_le 0 (clamp g) with hg2 | hg2
    · have c2 := fun w => clamp_any g w
      rw [show clamp g = 1 by omega] at c2
      have C2 := Lib.hid c2
      clear c2 hg2 hg h4 h5
      rcases hp with hp | ⟨hp, hq | ⟨hq, hr⟩⟩
      all_goals
        go_enter Try.func6, Try.ntmps6
        go_wp2_with (go_at_call 15; refine (up_any _ _ _).mono ?_; rintro e w' ⟨rfl, rfl⟩)
        refine (C2.out _).mono ?_; rintro e w' ⟨rfl, rfl⟩
        go_wp2_with (first | (go_at_call 7; refine (clamp_any _ _).mono ?_; rintro e w' ⟨rfl, rfl⟩) | (go_at_call 15; refine (up_any _ _ _).mono ?_; rintro e w' ⟨rfl, rfl⟩) | (go_at_call 17; refine (past_any _ _ _ _).mono ?_; rintro e w' ⟨rfl, rfl⟩) | (go_at_call 19; refine (awake_any _).mono ?_; rintro e w' ⟨rfl, rfl⟩))
        go_ret
        exact ⟨rfl, rfl⟩
    · rcases hp with hp | ⟨hp, hq | ⟨hq, hr⟩⟩
      all_goals
        go_enter Try.func6, Try.ntmps6
        go_wp2_with (first | (go_at_call 7; refine (clamp_any _ _).mono ?_; rintro e w' ⟨rfl, rfl⟩) | (go_at_call 15; refine (up_any _ _ _).mono ?_; rintro e w' ⟨rfl, rfl⟩) | (go_at_call 17; refine (past_any _ _ _ _).mono ?_; rintro e w' ⟨rfl, rfl⟩) | (go_at_call 19; refine (awake_any _).mono ?_; rintro e w' ⟨rfl, rfl⟩))
        go_ret
        exact ⟨rfl, rfl⟩

end Go.Proofs.Ytaajdaebcgjlpaa.Tk
