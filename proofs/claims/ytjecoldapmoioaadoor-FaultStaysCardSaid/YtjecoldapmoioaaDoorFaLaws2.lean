/- The law 'the code stays': whatever error, whatever nodes. -/
import Derived.Test.YtjecoldapmoioaaDoorFa4
import Derived.Test.YtjecoldapmoioaaDoorArgI
import Derived.Deep.RegionHeld3
import Derived.BigQuiet
import Derived.Lib.QuietBelow
import Derived.IntWalk
namespace Go.Proofs.YtjecoldapmoioaaDoor.FaL2
open Go.RowKit Go.Sort St Cd Er Sb Fa Args
set_option linter.unusedVariables false

theorem clean_zero {c : Int} (h : clean c = 0) : c = 0 := by unfold clean at h; split at h <;> omega
theorem Eh.as {W w : World} (h : Hid (Eh W)) (k : Kept W w) : Eh w := h.out.kept k
theorem awake_k {W w : World} (h : Hid (Eh W)) (k : Kept W w) : Calls Tryd.prog 6 #[] w fun ev w' => ev = .returned (.bool true) ∧ Kept W w' :=
  (awake_any w (h.out.kept k)).mono fun _ _ r => ⟨r.1, k.trans r.2⟩
theorem path_k {W w : World} (h : Hid (Eh W)) (k : Kept W w) : Calls Tryd.prog 13 #[.nilIface] w fun ev w' => ev = .returned (.slice none 0 0) ∧ Kept W w' :=
  (path_nil w (h.out.kept k)).mono fun _ _ r => ⟨r.1, k.trans r.2⟩

set_option maxRecDepth 100000 in
set_option maxHeartbeats 2000000 in
theorem stays_zero (n : Int) (v : Value) (len : Nat) (F : Nat → Int) (W : World) (hp : Ints W v len F) (hg : Eh W) :
    Calls Tryd.prog 4 #[.int .i64 0, .int .i64 n, v] W fun ev w' => ev = .returned (.bool true) ∧ Kept W w' := by
  have K0 : Kept W W := Kept.refl _
  have HG := Lib.hid hg
  clear hg
  obtain ⟨a0, cap, rfl⟩ : ∃ a0 cap, v = .slice a0 len cap := by
    rcases hp with ⟨rfl, a, cap, rfl⟩ | ⟨_, _, b, off, cap, rfl, _⟩
    · exact ⟨_, _, rfl⟩
    · exact ⟨_, _, rfl⟩
  have HP := Lib.hid hp
  clear hp
  by_cases h30 : 30 < len
  · go_enter Tryd.func4, Tryd.ntmps4
    go_wp2_with (go_at_call 6; refine (awake_k HG (by assumption)).mono ?_; rintro e w1 ⟨rfl, K1⟩)
    go_ret
    exact ⟨rfl, K1⟩
  · have hc0 : Hid (clean 0 = 0) := rfl
    go_enter Tryd.func4, Tryd.ntmps4
    go_wp2_with (go_at_call 7; refine (new_nil 0 n hc0 _).mono ?_; rintro ev w1 ⟨rfl, rfl⟩)
    go_loopw [7, 8] (fun e i wr => e = .nilIface ∧ ∃ k : Nat, k ≤ len ∧ i = .int .i64 (k : Int) ∧ Kept W wr) (fun _ i _ => len - (intOf i).toNat)
    case atStart => exact ⟨rfl, 0, Nat.zero_le _, rfl, K0⟩
    case round =>
      obtain ⟨rfl, k, hk, rfl, hkept⟩ := hrel
      by_cases hlt : k < len
      · obtain ⟨b, off, rfl, hcell⟩ : ∃ b off, a0 = some ⟨b, off, none⟩ ∧ wr.cell? ⟨b, off + k, none⟩ = some (.int .i64 (F k)) := by
          rcases HP.out with ⟨h, _⟩ | ⟨_, _, b, off, cap', he, hb, hc⟩
          · omega
          · simp only [Value.slice.injEq] at he
            exact ⟨b, off, he.1, by rw [hkept.cell (p := ⟨b, off + k, none⟩) hb]; exact (hc k hlt).1⟩
        obtain ⟨z, hz⟩ : ∃ z, F k = z := ⟨_, rfl⟩
        rw [hz] at hcell
        go_wp2_with (first
          | (go_at_call 9; refine (wrap_nil _ _).mono ?_; rintro ev w1 ⟨rfl, rfl⟩)
          | (go_at_call 13; refine (path_k HG (by assumption)).mono ?_; rintro ev w2 ⟨rfl, K2⟩))
        have HQ : ∀ p : Regrown, Calls Tryd.prog 11 #[.nilIface] (grow (redrawn w2 p.d) p.os) fun e w'' => e = .returned (.int .i64 0) ∧ ∃ p : Regrown, w'' = grow (redrawn w2 p.d) p.os :=
          fun p => (code_nil _).mono fun _ _ h => ⟨h.1, p, h.2.symm⟩
        have HQ' := Lib.hid HQ
        clear HQ
        refine wp_region_quiet_below (by kernel_rfl) (by kernel_rfl) ?_
        repeat (go_big_quiet_step (exact HQ'.out _))
        refine wpQuiet_nil ?_
        intro _ hw'
        obtain ⟨⟨dq, osq⟩, hw''⟩ := hw'
        subst hw''
        have K3 := K2.trans (below_regrown w2 dq osq)
        go_wp2_with fail
        go_roundw
        case rel => exact ⟨rfl, k + 1, by omega, by go_num, K3⟩
        case measure => simp [intOf]; omega
      · go_wp2_with fail
        go_loop [11] (fun d => ∃ j : Nat, j ≤ 17 ∧ d = .int .i64 (j : Int)) (fun d => 17 - (intOf d).toNat)
        case atStart => exact ⟨0, by omega, rfl⟩
        case round =>
          obtain ⟨j, hj, rfl⟩ := hrel
          by_cases hj16 : j ≤ 16
          · obtain ⟨z, hz⟩ : ∃ z, decide ((j : Int) = 0) = z := ⟨_, rfl⟩
            have HI := Lib.hid (fis_nil (j : Int) z hz)
            have HC := Lib.hid (clean_any 0)
            rw [hc0.out] at HC
            have hjz : ((j : Int) == 0) = z := by rw [← hz]; rfl
            clear hz
            go_wp2_with (first
              | (go_at_call 16; refine (HI.out _).mono ?_; rintro ev w1 ⟨rfl, rfl⟩)
              | (go_at_call 17; refine (HC.out _).mono ?_; rintro ev w1 ⟨rfl, rfl⟩))
            all_goals (try go_round)
            case rel => exact ⟨j + 1, by omega, by go_num⟩
            case measure => simp [intOf]; omega
          · go_wp2_with (go_at_call 6; refine (awake_k HG hkept).mono ?_; rintro e w1 ⟨rfl, K1⟩)
            go_ret
            exact ⟨rfl, K1⟩

end Go.Proofs.YtjecoldapmoioaaDoor.FaL2
