/- Package code: which codes may be tried again. -/
import Derived.Test.YtpicjcophjekpaaSt
namespace Go.Proofs.Ytpicjcophjekpaa.Cd
open Go.RowKit Go.Sort St

theorem again_any (c : Int) (w : World) :
    Calls Try.prog 40 #[.int .i64 c] w fun e w' => e = .returned (.bool (c == 14 || c == 8)) ∧ w = w' := by
  by_cases h1 : c = 14
  · subst h1
    go_enter Try.func40, Try.ntmps40
    go_wp2_with fail
    go_ret
    exact ⟨rfl, rfl⟩
  · have h1' : (c == 14) = false := beq_eq_false_iff_ne.2 h1
    by_cases h2 : c = 8
    · subst h2
      go_enter Try.func40, Try.ntmps40
      go_wp2_with fail
      go_ret
      exact ⟨rfl, rfl⟩
    · have h2' : (c == 8) = false := beq_eq_false_iff_ne.2 h2
      have h := Lib.hid (show (c == 14 || c == 8) = false by rw [h1', h2']; rfl)
      clear h1 h2
      go_enter Try.func40, Try.ntmps40
      go_wp2_with fail
      go_ret
      exact ⟨ret_bool h.out.symm, rfl⟩

end Go.Proofs.Ytpicjcophjekpaa.Cd
