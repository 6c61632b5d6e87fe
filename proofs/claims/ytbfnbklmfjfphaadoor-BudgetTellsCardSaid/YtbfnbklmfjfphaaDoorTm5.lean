/- Contracts of the document's own text of a span; of what is cut; and the chapter's examples. -/
import Derived.Test.YtbfnbklmfjfphaaDoorTm4
namespace Go.Proofs.YtbfnbklmfjfphaaDoor.Tm
open Go.RowKit St Go.Sort

theorem digits8 {n : Nat} (h : n ≤ 99999999) : n < 10 ^ (7 + 1) := by
  have e : (10 : Nat) ^ (7 + 1) = 100000000 := by decide
  omega

set_option maxHeartbeats 1000000 in
theorem renc_any (t : Int) (w : World) :
    Calls Tryd.prog 13 #[.int .i64 t] w fun e w' => e = .returned (.string ⟨(enc (Tk.clamp t)).toArray⟩) ∧ Kept w w' := by
  have h0 := Tk.clamp_lo t
  have h1 := Tk.clamp_hi t
  obtain ⟨x, hx⟩ : ∃ x, Tk.clamp t = x := ⟨_, rfl⟩
  have hclamp := fun w => Tk.rclamp_any t w
  rw [hx] at hclamp h0 h1 ⊢
  have h4 := fin_le x
  have HC := Lib.hid hclamp
  have HQ := Lib.hid (fin_eq h1)
  have HX := Lib.hid (show enc x = Lib.decDigits (x / uAt (fin x)).toNat ++ [cAt (fin x)] from rfl)
  clear hclamp hx
  go_enter Tryd.func13, Tryd.ntmps13
  go_wp2_with (go_at_call 17; refine (HC.out _).mono ?_; rintro e w' ⟨rfl, rfl⟩)
  go_loop [4] (fun i => ∃ k : Nat, k ≤ fin x ∧ i = .int .i64 (k : Int)) (fun i => 5 - (intOf i).toNat)
  case atStart => exact ⟨0, Nat.zero_le _, rfl⟩
  case round =>
    obtain ⟨k, hk, rfl⟩ := hrel
    obtain ⟨c, u, hidx, hu, hu0, hc, hU⟩ := unit_at k (by omega)
    obtain ⟨D, hcut, hD, hS⟩ := unit_cut k (by omega)
    have hqn : 0 ≤ x / u := Int.ediv_nonneg h0 (by omega)
    obtain ⟨q, hq⟩ : ∃ q : Int, x / u = q := ⟨_, rfl⟩
    obtain ⟨n, hn⟩ : ∃ n : Nat, q = (n : Int) := ⟨q.toNat, by omega⟩
    rcases Nat.lt_or_ge k (fin x) with hlt | hge
    · have hq1 : 100000000 ≤ q := by have := fin_lt hlt; rw [← hU.out] at this; omega
      clear hqn hn
      go_wp2_with (go_at_call 26; refine (runit_any _ _).mono ?_; rintro e w' ⟨rfl, rfl⟩)
      go_round
      case rel => exact ⟨k + 1, by omega, by go_num⟩
      case measure => simp [intOf]; omega
    · have hkf : k = fin x := by omega
      have hq9 := HQ.out
      rw [← hkf, ← hU.out] at hq9
      obtain ⟨E, hE, hEl, hEs⟩ := digits_named n (by omega)
      have HE := Lib.hid (show E.data.toList = Lib.decDigits (x / uAt (fin x)).toNat by rw [hEl, ← hkf, ← hU.out, hq, hn]; rfl)
      have n1 : ¬ 9223372036854775807 < E.size + D.size := by have := hS.out; omega
      have n2 : ¬ 9223372036854775807 < E.size + 1 := by omega
      have hdig : ∀ w, Calls Tryd.prog 27 #[.int .i64 q] w fun e w' => e = .returned (.string E) ∧ Kept w w' := fun w => by
        rw [← hE, hn]; exact digits_any 7 n w (digits8 (by omega)) (by omega)
      have hdig2 : ∀ p : Regrown, Calls Tryd.prog 27 #[.int .i64 q] (grow (redrawn w p.d) p.os) fun e w'' => e = .returned (.string E) ∧ ∃ p : Regrown, w'' = grow (redrawn w p.d) p.os :=
        fun p => Calls.regrown_of (hdig _)
      have HG := Lib.hid hdig
      have HI := Lib.hid hdig2
      have hq1 : q < 100000000 := by omega
      have hq0 : 0 ≤ q := by omega
      have HK := Lib.hid hkf
      rcases Nat.lt_or_ge k 4 with hk4 | hk4
      · clear hdig hdig2 hE hEl hEs hqn hq9 hkf hn
        go_wp2_with (go_at_call 26; refine (runit_any _ _).mono ?_; rintro e w' ⟨rfl, rfl⟩)
        refine wp_region_quiet_below (by kernel_rfl) (by kernel_rfl) ?_
        repeat (go_big_quiet_step (exact HI.out _))
        refine wpQuiet_nil ?_
        intro _ hw'
        obtain ⟨⟨dq, osq⟩, hw''⟩ := hw'
        subst hw''
        go_wp2_with fail
        go_ret
        exact ⟨ret_str (by simp [hD.out, HX.out, HE.out, ← HK.out]), below_regrown w dq osq⟩
      · have hkk : k = 4 := by omega
        subst hkk
        have hc72 : c = 72 := hc.out
        subst hc72
        clear hdig hdig2 hE hEl hEs hqn hq9 hkf hn
        go_wp2_with (first | (go_at_call 26; refine (runit_any _ _).mono ?_; rintro e w' ⟨rfl, rfl⟩) | (go_at_call 27; refine (HG.out _).mono ?_; rintro e w' ⟨rfl, HW⟩))
        go_ret
        exact ⟨ret_str (by simp [HX.out, HE.out, ← HK.out]; rfl), HW⟩


end Go.Proofs.YtbfnbklmfjfphaaDoor.Tm
