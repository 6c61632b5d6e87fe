/- Walk of layer 9's second law: a time falls from level to level, till it is due. -/
import Derived.Test.YtcgpenhcokkifaaSlLaws
namespace Go.Proofs.Ytcgpenhcokkifaa.Sl
open Go.RowKit Tk
open St (Kept)

/-- when the slot begins: a lower level, or now -/
theorem again_lower {n x : Int} (h : n < x) (hn : 0 ≤ n) (hx1 : x ≤ 1125899906842624) (hF : fall n x ≠ x) : placeL (fall n x) x < lev n x := by
  have hg := fall_gt h
  have hle := fall_le (n := n) (x := x)
  unfold placeL
  rw [clamp_id x (by omega) hx1, clamp_id (fall n x) (by omega) (by omega), if_neg (by omega)]
  exact fall_lower hF
/-- until then it stays -/
theorem again_stays {n m x : Int} (h : n < x) (hn : 0 ≤ n) (hx1 : x ≤ 1125899906842624) (h1 : n ≤ m) (h2 : m < fall n x) : placeL m x = lev n x ∧ placeS m x = part x (lev n x) := by
  have hle := fall_le (n := n) (x := x)
  unfold placeL placeS
  rw [clamp_id x (by omega) hx1, clamp_id m (by omega) (by omega), if_neg (by omega), if_neg (by omega), lev_stays h h1 h2]
  exact ⟨rfl, rfl⟩

set_option maxHeartbeats 1000000 in
theorem slotFalls_any (now t mid : Int) (w : World) :
    Calls Try.prog 4 #[.int .i64 now, .int .i64 t, .int .i64 mid] w fun e w' => e = .returned (.bool true) ∧ Kept w w' := by
  obtain ⟨n, hn⟩ : ∃ n, clamp now = n := ⟨_, rfl⟩
  obtain ⟨x, hx⟩ : ∃ x, clamp t = x := ⟨_, rfl⟩
  obtain ⟨m, hm⟩ : ∃ m, clamp mid = m := ⟨_, rfl⟩
  have hn0 := clamp_lo now
  have hn1 := clamp_hi now
  have hx0 := clamp_lo t
  have hx1 := clamp_hi t
  have hm0 := clamp_lo mid
  have hm1 := clamp_hi mid
  rw [hn] at hn0 hn1
  rw [hx] at hx0 hx1
  rw [hm] at hm0 hm1
  have HN := Lib.hid hn
  have HX := Lib.hid hx
  have HM := Lib.hid hm
  rcases Int.lt_or_le n x with h | h
  · have hlt : clamp now < clamp t := by rw [hn, hx]; exact h
    have hg := fall_gt h
    have hle := fall_le (n := n) (x := x)
    have low0 := again_lower h hn0 hx1
    have stay0 := fun h1 h2 => again_stays (m := m) h hn0 hx1 h1 h2
    obtain ⟨F, hF⟩ : ∃ F, fall n x = F := ⟨_, rfl⟩
    obtain ⟨L, hL⟩ : ∃ L, placeL now t = L := ⟨_, rfl⟩
    obtain ⟨S, hS⟩ : ∃ S, placeS now t = S := ⟨_, rfl⟩
    have eL : lev n x = L := by rw [← hL]; unfold placeL; rw [if_neg (by omega), hn, hx]
    have eS : part x (lev n x) = S := by rw [← hS]; unfold placeS; rw [if_neg (by omega), hn, hx]
    rw [eS, eL] at stay0
    rw [eL] at low0
    rw [hF] at hg hle low0 stay0
    obtain ⟨L2, hL2⟩ : ∃ L2, placeL F x = L2 := ⟨_, rfl⟩
    obtain ⟨S2, hS2⟩ : ∃ S2, placeS F x = S2 := ⟨_, rfl⟩
    obtain ⟨A, hA⟩ : ∃ A, placeL m x = A := ⟨_, rfl⟩
    obtain ⟨B, hB⟩ : ∃ B, placeS m x = B := ⟨_, rfl⟩
    obtain ⟨T, hT⟩ : ∃ T, turnAll x = T := ⟨_, rfl⟩
    rw [hL2] at low0
    rw [hA, hB] at stay0
    have HL := Lib.hid hL
    have HS := Lib.hid hS
    have HL2 := Lib.hid hL2
    have HS2 := Lib.hid hS2
    have HA := Lib.hid hA
    have HB := Lib.hid hB
    have HT := Lib.hid hT
    have hl0 := lev_lo n x
    have hl1 := lev_hi n x
    rw [eL] at hl0 hl1
    have HF4 : L = 4 → Hid (T = F) := fun h4 => Lib.hid (by rw [← hF, ← hT]; have := turn_fall (n := n) (x := t) (by rw [hx, eL]; exact h4); rw [hx] at this; exact this)
    have HF3 : L ≠ 4 → Hid (start now L S = F) := fun h4 => Lib.hid (by
        have := start_fall hlt (by rw [hn, hx, eL]; exact h4)
        rw [hn, hx, eS, eL, hF] at this; exact this)
    clear hn hx hm hF hL hS eL eS hlt hL2 hS2 hA hB hT
    have hfar : (m < n ∨ (n ≤ m ∧ F ≤ m)) ∨ (n ≤ m ∧ m < F ∧ A = L ∧ B = S) := by
      rcases (show m < n ∨ (n ≤ m ∧ F ≤ m) ∨ (n ≤ m ∧ m < F) by omega) with hc | hc | ⟨hc, hc2⟩
      · exact .inl (.inl hc)
      · exact .inl (.inr hc)
      · exact .inr ⟨hc, hc2, stay0 hc hc2⟩
    have hnear : (F != x) = false ∨ ((F != x) = true ∧ L2 < L) := by
      by_cases he : F = x
      · exact .inl (by simp [he])
      · exact .inr ⟨by simp [he], low0 he⟩
    clear stay0 low0
    by_cases h4 : L = 4
    · have hTF := (HF4 h4).out
      subst hTF
      subst h4
      clear HF3 HF4
      rcases hfar with (hc | ⟨hc, hc2⟩) | ⟨hc, hc2, rfl, rfl⟩ <;> rcases hnear with he | ⟨he, hlow⟩
      all_goals
        go_enter Try.func4, Try.ntmps4
        go_wp2_with (first | (go_at_call 5; first | (with_reducible refine (rclamp_as HN _).mono ?_; rintro e w' ⟨rfl, rfl⟩) | (with_reducible refine (rclamp_as HX _).mono ?_; rintro e w' ⟨rfl, rfl⟩) | (with_reducible refine (rclamp_as HM _).mono ?_; rintro e w' ⟨rfl, rfl⟩)) | (go_at_call 6; first | (with_reducible refine (place_as HL HS _).mono ?_; rintro e w' ⟨rfl, rfl⟩) | (with_reducible refine (place_as HL2 HS2 _).mono ?_; rintro e w' ⟨rfl, rfl⟩) | (with_reducible refine (place_as HA HB _).mono ?_; rintro e w' ⟨rfl, rfl⟩)) | (go_at_call 8; refine (turn_as HT _).mono ?_; rintro e w' ⟨rfl, rfl⟩) | (go_at_call 7; refine (awake_any _).mono ?_; rintro e w' ⟨rfl, hk⟩))
        all_goals go_ret
        all_goals exact ⟨rfl, hk⟩
    · have HF := HF3 h4
      have hl4 : L < 4 := by omega
      clear HF3 HF4 h4
      rcases hfar with (hc | ⟨hc, hc2⟩) | ⟨hc, hc2, rfl, rfl⟩ <;> rcases hnear with he | ⟨he, hlow⟩
      all_goals
        go_enter Try.func4, Try.ntmps4
        go_wp2_with (first | (go_at_call 5; first | (with_reducible refine (rclamp_as HN _).mono ?_; rintro e w' ⟨rfl, rfl⟩) | (with_reducible refine (rclamp_as HX _).mono ?_; rintro e w' ⟨rfl, rfl⟩) | (with_reducible refine (rclamp_as HM _).mono ?_; rintro e w' ⟨rfl, rfl⟩)) | (go_at_call 6; first | (with_reducible refine (place_as HL HS _).mono ?_; rintro e w' ⟨rfl, rfl⟩) | (with_reducible refine (place_as HL2 HS2 _).mono ?_; rintro e w' ⟨rfl, rfl⟩) | (with_reducible refine (place_as HA HB _).mono ?_; rintro e w' ⟨rfl, rfl⟩)) | (go_at_call 8; refine (turn_as HT _).mono ?_; rintro e w' ⟨rfl, rfl⟩) | (go_at_call 9; refine (start_as HF _).mono ?_; rintro e w' ⟨rfl, hk⟩) | (go_at_call 7; refine (awake_any _).mono ?_; rintro e w' ⟨rfl, hk2⟩))
        all_goals go_ret
        all_goals exact ⟨rfl, hk.trans hk2⟩
  · clear hn hx hm
    obtain ⟨L, hL⟩ : ∃ L, placeL now t = L := ⟨_, rfl⟩
    obtain ⟨S, hS⟩ : ∃ S, placeS now t = S := ⟨_, rfl⟩
    have HL := Lib.hid hL
    have HS := Lib.hid hS
    clear hL hS
    go_enter Try.func4, Try.ntmps4
    go_wp2_with (first | (go_at_call 5; first | (with_reducible refine (rclamp_as HN _).mono ?_; rintro e w' ⟨rfl, rfl⟩) | (with_reducible refine (rclamp_as HX _).mono ?_; rintro e w' ⟨rfl, rfl⟩) | (with_reducible refine (rclamp_as HM _).mono ?_; rintro e w' ⟨rfl, rfl⟩)) | (go_at_call 6; refine (place_as HL HS _).mono ?_; rintro e w' ⟨rfl, rfl⟩) | (go_at_call 7; refine (awake_any _).mono ?_; rintro e w' ⟨rfl, hk⟩))
    go_ret
    exact ⟨rfl, hk⟩

end Go.Proofs.Ytcgpenhcokkifaa.Sl
