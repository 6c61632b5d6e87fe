/- Contracts of package ticks, and of the document's own answers for it: products, multiples of a grain, and what is past. -/
import Derived.Test.YtpicjcophjekpaaTk
namespace Go.Proofs.Ytpicjcophjekpaa.Tk
open Go.RowKit


set_option maxHeartbeats 400000 in
theorem up_any (t : Int) (g : Int) (w : World) :
    Calls Try.prog 37 #[.int .i64 t, .int .i64 g] w fun e w' => e = .returned (.int .i64 (up t g)) ∧ w = w' := by
  have ha := clamp_lo t
  have ha2 := clamp_hi t
  have hb := clamp_lo g
  have hb2 := clamp_hi g
  have hd := upTo_ge t g
  have hd2 := upTo_lt t g
  rcases Int.lt_or_le 1 (clamp g) with h | h
  · have he := upTo_of t (g := g) (by omega)
    rw [grain_of (by omega)] at hd2
    rw [he] at hd hd2
    have HE := Lib.hid he; clear he
    go_enter Try.func37, Try.ntmps37
    go_wp2_with (go_at_call 32; refine (clamp_any _ _).mono ?_; rintro e w' ⟨rfl, rfl⟩)
    all_goals go_ret
    all_goals exact ⟨ret_int (by unfold up; rw [HE.out]; unfold most; omega), rfl⟩
  · have HE := Lib.hid (upTo_one t h)
    go_enter Try.func37, Try.ntmps37
    go_wp2_with (go_at_call 32; refine (clamp_any _ _).mono ?_; rintro e w' ⟨rfl, rfl⟩)
    all_goals go_ret
    all_goals exact ⟨ret_int (by unfold up; rw [HE.out]; unfold most; omega), rfl⟩

set_option maxHeartbeats 400000 in
theorem past_any (now : Int) (t : Int) (g : Int) (w : World) :
    Calls Try.prog 29 #[.int .i64 now, .int .i64 t, .int .i64 g] w fun e w' => e = .returned (.bool (past now t g)) ∧ w = w' := by
  go_enter Try.func29, Try.ntmps29
  go_wp2_with (first | (go_at_call 32; refine (clamp_any _ _).mono ?_; rintro e w' ⟨rfl, rfl⟩) | (go_at_call 37; refine (up_any _ _ _).mono ?_; rintro e w' ⟨rfl, rfl⟩))
  all_goals go_ret
  all_goals exact ⟨rfl, rfl⟩

set_option maxHeartbeats 400000 in
theorem rup_any (t : Int) (g : Int) (w : World) :
    Calls Try.prog 38 #[.int .i64 t, .int .i64 g] w fun e w' => e = .returned (.int .i64 (up t g)) ∧ w = w' := by
  have ha := clamp_lo t
  have ha2 := clamp_hi t
  have hb := clamp_lo g
  have hb2 := clamp_hi g
  have hd := upTo_ge t g
  have hd2 := upTo_lt t g
  rcases Int.lt_or_le 0 (clamp g) with h | h
  · have he := upTo_rest t g
    rw [grain_of (by omega)] at he
    have hr1 := Int.emod_nonneg (clamp t) (show clamp g ≠ 0 by omega)
    have hr2 := Int.emod_lt_of_pos (clamp t) h
    have hr3 : clamp t % clamp g ≤ clamp t := mod_le ha h
    have hg0 : (clamp g == 0) = false := by simp; omega
    have hcg := Lib.hid (clamp_clamp g)
    have hct := Lib.hid (clamp_id (clamp t - clamp t % clamp g) (by omega) (by omega))
    by_cases hz : clamp t % clamp g = 0
    · rw [if_pos hz] at he
      have HE := Lib.hid he; clear he
      have hz2 : (clamp t % clamp g == 0) = true := by simpa using hz
      clear hz
      go_enter Try.func38, Try.ntmps38
      go_wp2_with (go_at_call 17; refine (rclamp_any _ _).mono ?_; rintro e w' ⟨rfl, rfl⟩)
      all_goals go_ret
      all_goals exact ⟨ret_int (by unfold up; rw [HE.out]; unfold most; omega), rfl⟩
    · rw [if_neg hz] at he
      have HE := Lib.hid he; clear he
      have hz2 : (clamp t % clamp g == 0) = false := by simpa using hz
      clear hz
      go_enter Try.func38, Try.ntmps38
      go_wp2_with (first | (go_at_call 17; refine (rclamp_any _ _).mono ?_; rintro e w' ⟨rfl, rfl⟩) | (go_at_call 18; refine (radd_any _ _ _).mono ?_; rintro e w' ⟨rfl, rfl⟩))
      all_goals go_ret
      all_goals exact ⟨ret_int (by unfold up add; rw [HE.out, hct.out, hcg.out]), rfl⟩
  · have HE := Lib.hid (upTo_one t (g := g) (by omega))
    have hg0 : (clamp g == 0) = true := by simp; omega
    have hgl := Int.emod_one (clamp t)
    go_enter Try.func38, Try.ntmps38
    go_wp2_with (first | (go_at_call 17; refine (rclamp_any _ _).mono ?_; rintro e w' ⟨rfl, rfl⟩) | (go_at_call 18; refine (radd_any _ _ _).mono ?_; rintro e w' ⟨rfl, rfl⟩))
    all_goals go_ret
    all_goals exact ⟨ret_int (by unfold up; rw [HE.out]; unfold most; omega), rfl⟩

set_option maxHeartbeats 400000 in
theorem rpast_any (now : Int) (t : Int) (g : Int) (w : World) :
    Calls Try.prog 31 #[.int .i64 now, .int .i64 t, .int .i64 g] w fun e w' => e = .returned (.bool (past now t g)) ∧ w = w' := by
  go_enter Try.func31, Try.ntmps31
  go_wp2_with (first | (go_at_call 17; refine (rclamp_any _ _).mono ?_; rintro e w' ⟨rfl, rfl⟩) | (go_at_call 38; refine (rup_any _ _ _).mono ?_; rintro e w' ⟨rfl, rfl⟩))
  all_goals go_ret
  all_goals exact ⟨rfl, rfl⟩

end Go.Proofs.Ytpicjcophjekpaa.Tk
