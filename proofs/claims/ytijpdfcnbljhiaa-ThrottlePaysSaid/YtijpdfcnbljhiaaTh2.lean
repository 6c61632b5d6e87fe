/- The contract of what is left behind failures and successes. -/
import Derived.Test.YtijpdfcnbljhiaaTh
import Derived.Test.YtijpdfcnbljhiaaArgB
namespace Go.Proofs.Ytijpdfcnbljhiaa.Th
open Go.RowKit St Go.Sort Args
set_option linter.unusedVariables false

set_option maxHeartbeats 1000000 in
theorem plays_any (t : Int) (v : Value) (len : Nat) (F : Nat → Bool) (w : World) (hp : Bools w v len F) (hl : len ≤ 1000000) :
    Calls Try.prog 16 #[.int .i64 t, v] w fun e w' => e = .returned (.int .i64 (plays t F len)) ∧ w = w' := by
  obtain ⟨a0, cap, rfl⟩ := hp.slice
  obtain ⟨g, hg⟩ : ∃ g, Hid (full t = g) := ⟨_, rfl⟩
  have C1 := Lib.hid (show ∀ u, Calls Try.prog 7 #[.int .i64 t] u fun e w' => e = .returned (.int .i64 g) ∧ u = w' from fun u => by rw [← hg.out]; exact full_any t u)
  have HP := Lib.hid hp
  clear hp
  go_enter Try.func16, Try.ntmps16
  go_wp2_with (go_at_call 7; refine (C1.out _).mono ?_; rintro e w' ⟨rfl, rfl⟩)
  go_loopw [5, 12] (fun x i wr => ∃ k : Nat, k ≤ len ∧ x = .int .i64 (plays t F k) ∧ i = .int .i64 (k : Int) ∧ w = wr) (fun _ i _ => len - (intOf i).toNat)
  case atStart => exact ⟨0, Nat.zero_le _, by rw [← hg.out]; rfl, rfl, rfl⟩
  case round =>
    obtain ⟨k, hk, rfl, rfl, rfl⟩ := hrel
    obtain ⟨x, hx⟩ : ∃ x, plays t F k = x := ⟨_, rfl⟩
    rw [hx]
    by_cases hlt : k < len
    · obtain ⟨b, off, rfl, hc0⟩ := HP.out.cell hlt
      obtain ⟨z, hz⟩ : ∃ z, F k = z := ⟨_, rfl⟩
      rw [hz] at hc0
      have HY := Lib.hid (show plays t F (k + 1) = if z then good x t else bad x t by rw [← hx, ← hz]; rfl)
      clear hx hz
      rcases z with _ | _
      · go_wp2_with (go_at_call 9; refine (bad_any _ _ _).mono ?_; rintro e w' ⟨rfl, rfl⟩)
        all_goals go_roundw
        case rel => exact ⟨k + 1, hlt, by rw [HY.out]; rfl, by go_num, by trivial⟩
        case measure => simp [intOf]; omega
      · go_wp2_with (go_at_call 11; refine (good_any _ _ _).mono ?_; rintro e w' ⟨rfl, rfl⟩)
        all_goals go_roundw
        case rel => exact ⟨k + 1, hlt, by rw [HY.out]; rfl, by go_num, by trivial⟩
        case measure => simp [intOf]; omega
    · have hkl : k = len := by omega
      have HK := Lib.hid hkl
      have HX := Lib.hid hx
      clear hkl hx
      go_wp2_with fail
      go_ret
      exact ⟨ret_int (by rw [← HK.out, HX.out]), rfl⟩

/-! what it comes to -/
theorem plays_step (t : Int) (F : Nat → Bool) (k : Nat) : plays t F (k + 1) = if F k then good (plays t F k) t else bad (plays t F k) t := rfl
theorem fails_all (t : Int) (n : Nat) : ∀ k, k ≤ n → plays t (fun i => (List.replicate n false).getD i false) k = max (tk t - k) 0 * 1000
  | 0, _ => by have := tk_lo t; show full t = _; unfold full; omega
  | k + 1, h => by
    have ih := fails_all t n k (by omega)
    have h1 : ((List.replicate n false).getD k false) = false := by rw [List.getD_eq_getElem?_getD, List.getElem?_replicate]; split <;> rfl
    have h2 := tk_lo t
    have e : plays t (fun i => (List.replicate n false).getD i false) (k + 1) = bad (max (tk t - k) 0 * 1000) t := by
      show (if (List.replicate n false).getD k false then _ else _) = _
      rw [h1, ih]; rfl
    rw [e]; unfold bad
    rw [held_id (by omega) (by unfold full; omega)]; omega
theorem may_fails (t : Int) (k : Nat) : may (max (tk t - k) 0 * 1000) t = decide (2 * (k : Int) < tk t) := by
  have h2 := tk_lo t
  unfold may
  rw [held_id (by omega) (by unfold full; omega)]
  exact decide_eq_decide.2 (by unfold full; omega)
/-- so many failures, and then so many successes -/
def pay (k j : Nat) : List Bool := List.replicate k false ++ List.replicate j true
theorem pay_len (k j : Nat) : (pay k j).length = k + j := by simp [pay]
theorem pay_more (k j : Nat) : pay k j ++ [true] = pay k (j + 1) := by unfold pay; rw [List.append_assoc, ← List.replicate_succ']
theorem pay_bad (k j i : Nat) (h : i < k) : (pay k j).getD i false = false := by
  unfold pay; rw [List.getD_eq_getElem?_getD, List.getElem?_append_left (by simpa using h), List.getElem?_replicate, if_pos h]; rfl
theorem pay_good (k j i : Nat) (h : k ≤ i) (h2 : i < k + j) : (pay k j).getD i false = true := by
  unfold pay; rw [List.getD_eq_getElem?_getD, List.getElem?_append_right (by simpa using h), List.getElem?_replicate, List.length_replicate, if_pos (by omega)]; rfl
theorem pay_down (t : Int) (k j : Nat) : ∀ i, i ≤ k → plays t (fun i => (pay k j).getD i false) i = max (tk t - i) 0 * 1000
  | 0, _ => by have := tk_lo t; show full t = _; unfold full; omega
  | i + 1, h => by
    have ih := pay_down t k j i (by omega)
    have h2 := tk_lo t
    have e : plays t (fun i => (pay k j).getD i false) (i + 1) = bad (max (tk t - i) 0 * 1000) t := by
      show (if (pay k j).getD i false then _ else _) = _
      rw [pay_bad k j i (by omega), ih]; rfl
    rw [e]; unfold bad
    rw [held_id (by omega) (by unfold full; omega)]; omega
theorem pay_up (t : Int) (k j : Nat) : ∀ i, i ≤ j → plays t (fun i => (pay k j).getD i false) (k + i) = min (max (tk t - k) 0 * 1000 + i * 100) (full t)
  | 0, _ => by
    have := tk_lo t
    rw [Nat.add_zero, pay_down t k j k (Nat.le_refl _)]; unfold full; omega
  | i + 1, h => by
    have ih := pay_up t k j i (by omega)
    have h2 := tk_lo t
    have e : plays t (fun i => (pay k j).getD i false) (k + (i + 1)) = good (min (max (tk t - k) 0 * 1000 + i * 100) (full t)) t := by
      show plays t (fun i => (pay k j).getD i false) (k + i + 1) = _
      rw [plays_step, ih, pay_good k j (k + i) (by omega) (by omega)]; rfl
    rw [e]; unfold good
    rw [held_id (by unfold full; omega) (by omega)]; unfold full; omega
/-- ten successes pay for one failure -/
theorem pays_all (t : Int) (k : Nat) : plays t (fun i => (pay k (10 * k)).getD i false) (k + 10 * k) = tk t * 1000 := by
  have h2 := tk_lo t
  rw [pay_up t k (10 * k) (10 * k) (Nat.le_refl _)]; unfold full; omega
/-- one success less is not enough -/
theorem pays_less (t : Int) (k : Nat) (h0 : 1 ≤ k) (h1 : (k : Int) ≤ tk t) : plays t (fun i => (pay k (10 * k)).getD i false) (k + 10 * k - 1) = tk t * 1000 - 100 := by
  have h2 := tk_lo t
  rw [show k + 10 * k - 1 = k + (10 * k - 1) by omega, pay_up t k (10 * k) (10 * k - 1) (by omega)]; unfold full; omega

end Go.Proofs.Ytijpdfcnbljhiaa.Th
