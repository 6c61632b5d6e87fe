/- Walks of the laws of layer 9: each returns true, and leaves what was there as it was. -/
import Derived.Test.YtcgpenhcokkifaaSl2
namespace Go.Proofs.Ytcgpenhcokkifaa.Sl
open Go.RowKit Tk
open St (Kept)

theorem place_as {n x L S : Int} (hL : Hid (placeL n x = L)) (hS : Hid (placeS n x = S)) (w : World) :
    Calls Try.prog 6 #[.int .i64 n, .int .i64 x] w fun e w' => e = .returned (.tuple #[.int .i64 L, .int .i64 S]) ∧ w = w' := by
  have h := place_any n x w
  rw [hL.out, hS.out] at h; exact h
theorem start_as {n l s F : Int} (h : Hid (start n l s = F)) (w : World) :
    Calls Try.prog 9 #[.int .i64 n, .int .i64 l, .int .i64 s] w fun e w' => e = .returned (.int .i64 F) ∧ Kept w w' := by
  have c := start_any n l s w
  rw [h.out] at c; exact c
theorem turn_as {t F : Int} (h : Hid (turnAll t = F)) (w : World) :
    Calls Try.prog 8 #[.int .i64 t] w fun e w' => e = .returned (.int .i64 F) ∧ w = w' := by
  have c := turnAll_any t w
  rw [h.out] at c; exact c
theorem rsize_as {l Z : Int} (hl : Hid (0 ≤ l ∧ l < 5)) (h : Hid (sz l = Z)) (w : World) :
    Calls Try.prog 10 #[.int .i64 l] w fun e w' => e = .returned (.int .i64 Z) ∧ w = w' := by
  have c := rsize_any l hl.out.1 hl.out.2 w
  rw [h.out] at c; exact c
theorem rclamp_as {n N : Int} (h : Hid (clamp n = N)) (w : World) :
    Calls Try.prog 5 #[.int .i64 n] w fun e w' => e = .returned (.int .i64 N) ∧ w = w' := by
  have c := rclamp_any n w
  rw [h.out] at c; exact c

set_option maxHeartbeats 400000 in
theorem awake_any (w : World) : Calls Try.prog 7 #[] w fun e w' => e = .returned (.bool true) ∧ Kept w w' := by
  have h1 : Hid (placeL 5 7 = 0) := Lib.hid (by decide)
  have h2 : Hid (placeS 5 7 = 7) := Lib.hid (by decide)
  have h3 : Hid (placeL 5 70 = 1) := Lib.hid (by decide)
  have h4 : Hid (placeS 5 70 = 1) := Lib.hid (by decide)
  have h5 : Hid (start 5 1 1 = 64) := Lib.hid (by decide)
  go_enter Try.func7, Try.ntmps7
  go_wp2_with fail
  refine (place_as h1 h2 _).mono ?_; rintro e w' ⟨rfl, rfl⟩
  go_wp2_with fail
  refine (place_as h3 h4 _).mono ?_; rintro e w' ⟨rfl, rfl⟩
  go_wp2_with fail
  refine (start_as h5 _).mono ?_; rintro e w' ⟨rfl, hk⟩
  go_wp2_with fail
  go_ret
  exact ⟨rfl, hk⟩

theorem start_clamp (n l s : Int) : start (clamp n) l s = start n l s := by unfold start; rw [clamp_clamp]
/-- what the law's own facts are, of a time that is to come -/
theorem start_fall {n x : Int} (h : clamp n < clamp x) (h4 : lev (clamp n) (clamp x) ≠ 4) : start n (lev (clamp n) (clamp x)) (part (clamp x) (lev (clamp n) (clamp x))) = fall (clamp n) (clamp x) := by
  rw [← start_clamp, start_of (clamp_lo n) h (clamp_hi x) h4]; unfold fall; rw [if_neg h4]
theorem turn_fall {n x : Int} (h4 : lev n (clamp x) = 4) : turnAll (clamp x) = fall n (clamp x) := by
  unfold turnAll fall; rw [if_pos h4, clamp_clamp]

set_option maxHeartbeats 1000000 in
theorem slotHolds_any (now t : Int) (w : World) :
    Calls Try.prog 3 #[.int .i64 now, .int .i64 t] w fun e w' => e = .returned (.bool true) ∧ Kept w w' := by
  obtain ⟨n, hn⟩ : ∃ n, clamp now = n := ⟨_, rfl⟩
  obtain ⟨x, hx⟩ : ∃ x, clamp t = x := ⟨_, rfl⟩
  have hn0 := clamp_lo now
  have hn1 := clamp_hi now
  have hx0 := clamp_lo t
  have hx1 := clamp_hi t
  rw [hn] at hn0 hn1
  rw [hx] at hx0 hx1
  have HN := Lib.hid hn
  have HX := Lib.hid hx
  rcases Int.lt_or_le n x with h | h
  · have hlt : clamp now < clamp t := by rw [hn, hx]; exact h
    have hg := fall_gt h
    have hle := fall_le (n := n) (x := x)
    obtain ⟨F, hF⟩ : ∃ F, fall n x = F := ⟨_, rfl⟩
    rw [hF] at hg hle
    obtain ⟨L, hL⟩ : ∃ L, placeL now t = L := ⟨_, rfl⟩
    obtain ⟨S, hS⟩ : ∃ S, placeS now t = S := ⟨_, rfl⟩
    have eL : lev n x = L := by rw [← hL]; unfold placeL; rw [if_neg (by omega), hn, hx]
    have eS : part x (lev n x) = S := by rw [← hS]; unfold placeS; rw [if_neg (by omega), hn, hx]
    have HL := Lib.hid hL
    have HS := Lib.hid hS
    have hl0 := lev_lo n x
    have hl1 := lev_hi n x
    rw [eL] at hl0 hl1
    by_cases h4 : L = 4
    · subst h4
      have HT : Hid (turnAll x = F) := Lib.hid (by rw [← hF]; have := turn_fall (n := n) (x := t) (by rw [hx]; exact eL); rw [hx] at this; exact this)
      clear hn hx hF hL hS eL eS hlt
      go_enter Try.func3, Try.ntmps3
      go_wp2_with (first | (go_at_call 5; first | (with_reducible refine (rclamp_as HN _).mono ?_; rintro e w' ⟨rfl, rfl⟩) | (with_reducible refine (rclamp_as HX _).mono ?_; rintro e w' ⟨rfl, rfl⟩)) | (go_at_call 6; refine (place_as HL HS _).mono ?_; rintro e w' ⟨rfl, rfl⟩) | (go_at_call 8; refine (turn_as HT _).mono ?_; rintro e w' ⟨rfl, rfl⟩) | (go_at_call 7; refine (awake_any _).mono ?_; rintro e w' ⟨rfl, hk⟩))
      go_ret
      exact ⟨rfl, hk⟩
    · have hin := fall_in (n := n) (x := x) (by rw [eL]; exact h4)
      obtain ⟨Z, hZ⟩ : ∃ Z, sz L = Z := ⟨_, rfl⟩
      rw [eL, hF, hZ] at hin
      have HZ := Lib.hid hZ
      have HLL : Hid (0 ≤ L ∧ L < 5) := Lib.hid (by omega)
      have HT : Hid (start now L S = F) := Lib.hid (by
        have := start_fall hlt (by rw [hn, hx, eL]; exact h4)
        rw [hn, hx, eS, eL, hF] at this; exact this)
      have hl4 : L < 4 := by omega
      clear hn hx hF hL hS eL eS hlt hZ
      go_enter Try.func3, Try.ntmps3
      go_wp2_with (first | (go_at_call 5; first | (with_reducible refine (rclamp_as HN _).mono ?_; rintro e w' ⟨rfl, rfl⟩) | (with_reducible refine (rclamp_as HX _).mono ?_; rintro e w' ⟨rfl, rfl⟩)) | (go_at_call 6; refine (place_as HL HS _).mono ?_; rintro e w' ⟨rfl, rfl⟩) | (go_at_call 9; refine (start_as HT _).mono ?_; rintro e w' ⟨rfl, hk⟩) | (go_at_call 10; refine (rsize_as HLL HZ _).mono ?_; rintro e w' ⟨rfl, rfl⟩) | (go_at_call 7; refine (awake_any _).mono ?_; rintro e w' ⟨rfl, hk2⟩))
      go_ret
      exact ⟨rfl, hk.trans hk2⟩
  · have HL : Hid (placeL now t = 0) := Lib.hid (if_pos (by omega))
    have HS : Hid (placeS now t = n % 64) := Lib.hid (by unfold placeS; rw [if_pos (by omega), hn])
    clear hn hx
    go_enter Try.func3, Try.ntmps3
    go_wp2_with (first | (go_at_call 5; first | (with_reducible refine (rclamp_as HN _).mono ?_; rintro e w' ⟨rfl, rfl⟩) | (with_reducible refine (rclamp_as HX _).mono ?_; rintro e w' ⟨rfl, rfl⟩)) | (go_at_call 6; refine (place_as HL HS _).mono ?_; rintro e w' ⟨rfl, rfl⟩) | (go_at_call 7; refine (awake_any _).mono ?_; rintro e w' ⟨rfl, hk⟩))
    go_ret
    exact ⟨rfl, hk⟩

end Go.Proofs.Ytcgpenhcokkifaa.Sl
