/- Contracts of package slot: where a time stands (a loop over the levels), and a slot's first time (a region that draws its order). -/
import Derived.Test.YtckmkagijanbdaaSl
import Derived.Test.YtckmkagijanbdaaSt
import Derived.Deep.QuietTactic
namespace Go.Proofs.Ytckmkagijanbdaa.Sl
open Go.RowKit Tk
open St (Kept)

/-- the level's search, from a level on -/
def from' (n x : Int) (j : Int) : Prop := ∀ i : Int, 0 ≤ i → i < j → low n i ≠ low x i
theorem from_0 (n x : Int) : from' n x 0 := fun i h0 h1 => by omega
theorem from_succ {n x j : Int} (h : from' n x j) (h2 : low n j ≠ low x j) : from' n x (j + 1) := fun i h0 h1 => by
  by_cases hi : i < j
  · exact h i h0 hi
  · rw [show i = j by omega]; exact h2
theorem from_end {n x : Int} (h : from' n x 4) : lev n x = 4 := by
  have h0 := h 0 (by omega) (by omega)
  have h1 := h 1 (by omega) (by omega)
  have h2 := h 2 (by omega) (by omega)
  have h3 := h 3 (by omega) (by omega)
  unfold lev
  rw [if_neg h0, if_neg h1, if_neg h2, if_neg h3]
theorem from_met {n x j : Int} (hj : 0 ≤ j) (hj2 : j < 4) (h : from' n x j) (he : low n j = low x j) : lev n x = j := by
  unfold lev
  rcases (show j = 0 ∨ j = 1 ∨ j = 2 ∨ j = 3 by omega) with rfl | rfl | rfl | rfl
  · rw [if_pos he]
  · rw [if_neg (h 0 (by omega) (by omega)), if_pos he]
  · rw [if_neg (h 0 (by omega) (by omega)), if_neg (h 1 (by omega) (by omega)), if_pos he]
  · rw [if_neg (h 0 (by omega) (by omega)), if_neg (h 1 (by omega) (by omega)), if_neg (h 2 (by omega) (by omega)), if_pos he]

theorem part_0 (t : Int) : part (clamp t) 0 = clamp t % 64 := by
  unfold part; rw [if_pos (by omega), clamp_clamp]; show clamp t / 1 % 64 = _; rw [Int.ediv_one]
theorem part_4 (t : Int) : part t 4 = 0 := if_neg (by omega)

set_option maxHeartbeats 600000 in
theorem place_any (n x : Int) (w : World) :
    Calls Try.prog 60 #[.int .i64 n, .int .i64 x] w fun e w' => e = .returned (.tuple #[.int .i64 (placeL n x), .int .i64 (placeS n x)]) ∧ w = w' := by
  have hn0 := clamp_lo n
  have hn1 := clamp_hi n
  have hx0 := clamp_lo x
  have hx1 := clamp_hi x
  by_cases h : clamp x ≤ clamp n
  · have HL : RowKit.Hid (placeL n x = 0) := Lib.hid (if_pos h)
    have HS : RowKit.Hid (placeS n x = clamp n % 64) := Lib.hid (if_pos h)
    have HP := Lib.hid (part_0 n)
    go_enter Try.func60, Try.ntmps60
    go_wp2_with (first | (go_at_call 35; refine (clamp_any _ _).mono ?_; rintro e w' ⟨rfl, rfl⟩) | (go_at_call 61; refine (part_any _ _ _).mono ?_; rintro e w' ⟨rfl, rfl⟩))
    go_ret2
    exact ⟨ret_two HL.out.symm (HP.out.trans HS.out.symm), rfl⟩
  · have HL : RowKit.Hid (placeL n x = lev (clamp n) (clamp x)) := Lib.hid (if_neg h)
    have HS : RowKit.Hid (placeS n x = part (clamp x) (lev (clamp n) (clamp x))) := Lib.hid (if_neg h)
    go_enter Try.func60, Try.ntmps60
    go_wp2_with (first | (go_at_call 35; refine (clamp_any _ _).mono ?_; rintro e w' ⟨rfl, rfl⟩))
    go_loop [16] (fun y => ∃ j : Int, 0 ≤ j ∧ j ≤ 4 ∧ from' (clamp n) (clamp x) j ∧ y = .int .i64 j) (fun y => (4 - intOf y).toNat)
    case atStart => exact ⟨0, by omega, by omega, from_0 _ _, rfl⟩
    case round =>
      obtain ⟨j, hj, hj4, hf, rfl⟩ := hrel
      by_cases hlt : j < 4
      · have C1 := Lib.hid (fun w => turn_any (clamp n) j hn0 hn1 hj hlt w)
        have C2 := Lib.hid (fun w => turn_any (clamp x) j hx0 hx1 hj hlt w)
        by_cases he : low (clamp n) j = low (clamp x) j
        · have hb : (low (clamp n) j == low (clamp x) j) = true := by simpa using he
          have HM := Lib.hid (from_met hj hlt hf he)
          clear he
          go_wp2_with (first | (go_at_call 77; first | (with_reducible refine (C1.out _).mono ?_; rintro e w' ⟨rfl, rfl⟩) | (with_reducible refine (C2.out _).mono ?_; rintro e w' ⟨rfl, rfl⟩)) | (go_at_call 61; refine (part_any _ _ _).mono ?_; rintro e w' ⟨rfl, rfl⟩))
          go_ret2
          exact ⟨ret_two (by rw [HL.out, HM.out]) (by rw [HS.out, HM.out]), rfl⟩
        · have hb : (low (clamp n) j == low (clamp x) j) = false := by simpa using he
          have HF := from_succ hf he
          clear he
          go_wp2_with (first | (go_at_call 77; first | (with_reducible refine (C1.out _).mono ?_; rintro e w' ⟨rfl, rfl⟩) | (with_reducible refine (C2.out _).mono ?_; rintro e w' ⟨rfl, rfl⟩)) | (go_at_call 61; refine (part_any _ _ _).mono ?_; rintro e w' ⟨rfl, rfl⟩))
          go_round
          case rel => exact ⟨j + 1, by omega, by omega, HF, rfl⟩
          case measure => simp [intOf]; omega
      · have HE : RowKit.Hid (lev (clamp n) (clamp x) = 4) := Lib.hid (from_end (by rw [show j = 4 by omega] at hf; exact hf))
        have HP := Lib.hid (part_4 (clamp x))
        go_wp2
        go_ret2
        exact ⟨ret_two (by rw [HL.out, HE.out]) (by rw [HS.out, HE.out, HP.out]), rfl⟩

set_option maxHeartbeats 400000 in
theorem start_any (n l s : Int) (w : World) :
    Calls Try.prog 62 #[.int .i64 n, .int .i64 l, .int .i64 s] w fun e w' => e = .returned (.int .i64 (start n l s)) ∧ Kept w w' := by
  have hn0 := clamp_lo n
  have hn1 := clamp_hi n
  by_cases h : 0 ≤ l ∧ l < 4
  · by_cases hs : 0 ≤ s ∧ s < 64
    · have a1 := fun w => among_any l 4 w
      have a2 := fun w => among_any s 64 w
      rw [show decide (0 ≤ l ∧ l < 4) = true from decide_eq_true h] at a1
      rw [show decide (0 ≤ s ∧ s < 64) = true from decide_eq_true hs] at a2
      have A1 := Lib.hid a1
      have A2 := Lib.hid a2
      have HS : RowKit.Hid (start n l s = low (clamp n) l + s * sz l) := Lib.hid (if_pos ⟨h, hs⟩)
      have hlow := low_le (clamp n) l hn0
      obtain ⟨hl, hl2⟩ := h
      obtain ⟨hs1, hs2⟩ := hs
      have C1 := Lib.hid (fun w => turn_any (clamp n) l hn0 hn1 hl hl2 w)
      rcases (show l = 0 ∨ l = 1 ∨ l = 2 ∨ l = 3 by omega) with rfl | rfl | rfl | rfl
      all_goals
        go_enter Try.func62, Try.ntmps62
        go_wp2_with (first | (go_at_call 35; refine (clamp_any _ _).mono ?_; rintro e w' ⟨rfl, rfl⟩) | (go_at_call 78; first | (with_reducible refine (A1.out _).mono ?_; rintro e w' ⟨rfl, rfl⟩) | (with_reducible refine (A2.out _).mono ?_; rintro e w' ⟨rfl, rfl⟩)))
        go_quiet (first | (go_at_call 77; exact Calls.quiet_of_same ((C1.out _).mono fun _ _ h => ⟨h.1, h.2.symm⟩)))
        go_wp2
        go_ret
        exact ⟨ret_int (by rw [HS.out]; unfold sz; simp), (Kept.refl w).drewN nq⟩
    · have a1 := fun w => among_any l 4 w
      have a2 := fun w => among_any s 64 w
      rw [show decide (0 ≤ l ∧ l < 4) = true from decide_eq_true h] at a1
      rw [show decide (0 ≤ s ∧ s < 64) = false from decide_eq_false hs] at a2
      have A1 := Lib.hid a1
      have A2 := Lib.hid a2
      have HS : RowKit.Hid (start n l s = clamp n) := Lib.hid (if_neg fun hc => hs hc.2)
      clear a1 a2 h hs
      go_enter Try.func62, Try.ntmps62
      go_wp2_with (first | (go_at_call 35; refine (clamp_any _ _).mono ?_; rintro e w' ⟨rfl, rfl⟩) | (go_at_call 78; first | (with_reducible refine (A1.out _).mono ?_; rintro e w' ⟨rfl, rfl⟩) | (with_reducible refine (A2.out _).mono ?_; rintro e w' ⟨rfl, rfl⟩)))
      go_ret
      exact ⟨ret_int HS.out.symm, Kept.refl _⟩
  · have a1 := fun w => among_any l 4 w
    rw [show decide (0 ≤ l ∧ l < 4) = false from decide_eq_false h] at a1
    have A1 := Lib.hid a1
    have HS : RowKit.Hid (start n l s = clamp n) := Lib.hid (if_neg fun hc => h hc.1)
    clear a1 h
    go_enter Try.func62, Try.ntmps62
    go_wp2_with (first | (go_at_call 35; refine (clamp_any _ _).mono ?_; rintro e w' ⟨rfl, rfl⟩) | (go_at_call 78; (with_reducible refine (A1.out _).mono ?_; rintro e w' ⟨rfl, rfl⟩)))
    go_ret
    exact ⟨ret_int HS.out.symm, Kept.refl _⟩



end Go.Proofs.Ytckmkagijanbdaa.Sl
