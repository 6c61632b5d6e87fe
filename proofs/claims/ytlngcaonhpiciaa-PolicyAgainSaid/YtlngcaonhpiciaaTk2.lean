/- Contracts of package ticks, and of the document's own answers for it: products, multiples of a grain, and what is past. -/
import Derived.Test.YtlngcaonhpiciaaTk
namespace Go.Proofs.Ytlngcaonhpiciaa.Tk
open Go.RowKit

set_option maxHeartbeats 400000 in
theorem mul_any (a : Int) (b : Int) (w : World) :
    Calls Try.prog 26 #[.int .i64 a, .int .i64 b] w fun e w' => e = .returned (.int .i64 (mul a b)) ∧ w = w' := by
  have ha := clamp_lo a
  have ha2 := clamp_hi a
  have hb := clamp_lo b
  have hb2 := clamp_hi b
  have hp := Int.mul_nonneg ha hb
  rcases Int.lt_or_le 0 (clamp a) with h | h
  · rcases Int.lt_or_le 1125899906842624 (clamp a * clamp b) with h2 | h2
    · have h3 := (mul_over (n := clamp b) h).2 h2
      go_enter Try.func26, Try.ntmps26
      go_wp2_with (go_at_call 31; refine (clamp_any _ _).mono ?_; rintro e w' ⟨rfl, rfl⟩)
      all_goals go_ret
      all_goals exact ⟨ret_int (by unfold mul most; omega), rfl⟩
    · have h3 : clamp b ≤ 1125899906842624 / clamp a := Int.not_lt.1 fun hc => absurd ((mul_over h).1 hc) (by omega)
      go_enter Try.func26, Try.ntmps26
      go_wp2_with (go_at_call 31; refine (clamp_any _ _).mono ?_; rintro e w' ⟨rfl, rfl⟩)
      all_goals go_ret
      all_goals exact ⟨ret_int (by unfold mul most; omega), rfl⟩
  · have h0 : clamp a = 0 := by omega
    have h4 : clamp a * clamp b ≤ 0 := by rw [h0]; simp
    clear h0
    go_enter Try.func26, Try.ntmps26
    go_wp2_with (go_at_call 31; refine (clamp_any _ _).mono ?_; rintro e w' ⟨rfl, rfl⟩)
    all_goals go_ret
    all_goals exact ⟨ret_int (by unfold mul most; omega), rfl⟩





end Go.Proofs.Ytlngcaonhpiciaa.Tk
