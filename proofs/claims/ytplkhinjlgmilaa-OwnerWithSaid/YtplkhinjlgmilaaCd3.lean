/- The document's answers of layer 5. -/
import Derived.Test.YtplkhinjlgmilaaCd2
import Derived.Deep.QuietTactic
import Derived.BigQuiet
namespace Go.Proofs.Ytplkhinjlgmilaa.Cd
open Go.RowKit Go.Sort St

theorem rclean_as {c x : Int} (h : Hid (clean c = x)) (w : World) : Calls Try.prog 51 #[.int .i64 c] w fun e w' => e = .returned (.int .i64 x) ∧ w = w' := by
  have := rclean_any c w
  rwa [h.out] at this




/-- what says more and more -/
def ord : List Int := [0, 14, 8, 2, 3, 5, 6, 7, 9, 10, 11, 12, 13, 15, 16, 4, 1]
def pl (x : Int) : Nat → Nat → Nat
  | 0, _ => 0
  | n + 1, k => if ord.getD k 0 = x then k else pl x n (k + 1)
def place (x : Int) : Nat := pl x 17 0
theorem pl_yes {x : Int} {n k : Nat} (h : ord.getD k 0 = x) : pl x (n + 1) k = k := by rw [pl, if_pos h]
theorem pl_no {x : Int} {n k : Nat} (h : ¬ ord.getD k 0 = x) : pl x (n + 1) k = pl x n (k + 1) := by rw [pl, if_neg h]
def ordV : Array Value := (ord.map (Value.int .i64)).toArray
theorem ord_at (k : Nat) (h : k < 17) : ordV[k]? = some (.int .i64 (ord.getD k 0)) := by
  have : k < ord.length := h
  simp [ordV, this]
set_option maxHeartbeats 1000000 in
theorem place_any (c : Int) (w : World) :
    Calls Try.prog 55 #[.int .i64 c] w fun e w' => e = .returned (.int .i64 (place (clean c) : Int)) ∧ Kept w w' := by
  obtain ⟨x, hx⟩ : ∃ x, clean c = x := ⟨_, rfl⟩
  have HX := Lib.hid hx
  rw [hx]
  clear hx
  go_enter Try.func55, Try.ntmps55
  go_wp2_with fail
  go_loopw [4] (fun i wr => ∃ k : Nat, k ≤ 17 ∧ i = .int .i64 (k : Int) ∧ Hid (place x = pl x (17 - k) k) ∧ Kept w wr ∧ Hid (wr.heap[w.heap.size]? = some (.cells ordV 3 (0, 0)))) (fun i _ => 17 - (intOf i).toNat)
  case atStart => exact ⟨0, by omega, rfl, rfl, (Kept.refl w).grow #[_], blk_new w _⟩
  case round =>
    obtain ⟨k, hk1, rfl, hf, hkw, hb⟩ := hrel
    by_cases hlt : k < 17
    · obtain ⟨v, hv⟩ : ∃ v, ord.getD k 0 = v := ⟨_, rfl⟩
      obtain ⟨m, hm⟩ : ∃ m, 17 - k = m + 1 := ⟨16 - k, by omega⟩
      have HV := Lib.hid hv
      have hc : wr.cell? ⟨w.heap.size, k, none⟩ = some (.int .i64 v) := by rw [blk_cell hb.out, ord_at k hlt, hv]
      clear hv
      have hs := IntWalk.i64_in ((k : Int) + 1) (by omega)
      by_cases he : v = x
      · subst he
        have hp : Hid (place v = k) := by show _ = _; rw [hf.out, hm, pl_yes HV.out]
        go_wp2_with fail
        go_quiet (first | (go_at_call 51; exact Calls.quiet_of_same ((rclean_as HX _).mono fun _ _ h => ⟨h.1, h.2.symm⟩)))
        go_wp2_with fail
        go_ret
        exact ⟨ret_int (by rw [hp.out]), hkw.drewN nq⟩
      · have hp : Hid (place x = pl x (17 - (k + 1)) (k + 1)) := by show _ = _; rw [hf.out, hm, pl_no (by rw [HV.out]; exact he), show 17 - (k + 1) = m by omega]
        have ht : (v == x) = false := beq_eq_false_iff_ne.2 he
        clear he
        go_wp2_with fail
        go_quiet (first | (go_at_call 51; exact Calls.quiet_of_same ((rclean_as HX _).mono fun _ _ h => ⟨h.1, h.2.symm⟩)))
        go_wp2_with fail
        go_roundw
        case rel => exact ⟨k + 1, by omega, by go_num, hp, hkw.drewN nq, hb⟩
        case measure => simp [intOf]; omega
    · have hp : Hid (place x = 0) := by show _ = _; rw [hf.out, show 17 - k = 0 by omega]; rfl
      go_wp2_with fail
      go_ret
      exact ⟨ret_int (by rw [hp.out]; rfl), hkw⟩

theorem place_as {c x p : Int} (h : Hid (clean c = x)) (k : Hid ((place x : Int) = p)) (w : World) : Calls Try.prog 55 #[.int .i64 c] w fun e w' => e = .returned (.int .i64 p) ∧ Kept w w' := by
  have := place_any c w
  rwa [h.out, k.out] at this
theorem says_place : ∀ x y : Fin 17, (says (x.val : Int) < says (y.val : Int)) ↔ ((place (x.val : Int) : Int) < (place (y.val : Int) : Int)) := by decide +kernel
theorem says_place' {x y : Int} (hx : 0 ≤ x ∧ x ≤ 16) (hy : 0 ≤ y ∧ y ≤ 16) : (says x < says y) ↔ ((place x : Int) < (place y : Int)) := by
  have h := says_place ⟨x.toNat, by omega⟩ ⟨y.toNat, by omega⟩
  simpa [Int.toNat_of_nonneg hx.1, Int.toNat_of_nonneg hy.1] using h
theorem join_place (a b : Int) : join a b = if (place (clean a) : Int) < (place (clean b) : Int) then clean b else clean a := by
  unfold join
  have h := says_place' ⟨clean_lo a, clean_hi a⟩ ⟨clean_lo b, clean_hi b⟩
  by_cases hs : says (clean a) < says (clean b)
  · rw [if_pos hs, if_pos (h.mp hs)]
  · rw [if_neg hs, if_neg (fun e => hs (h.mpr e))]

theorem rjoin_any (a b : Int) (w : World) :
    Calls Try.prog 41 #[.int .i64 a, .int .i64 b] w fun e w' => e = .returned (.int .i64 (join a b)) ∧ Kept w w' := by
  have hj := join_place a b
  obtain ⟨x, hx⟩ : ∃ x, clean a = x := ⟨_, rfl⟩
  obtain ⟨y, hy⟩ : ∃ y, clean b = y := ⟨_, rfl⟩
  rw [hx, hy] at hj
  obtain ⟨p, hp⟩ : ∃ p, (place x : Int) = p := ⟨_, rfl⟩
  obtain ⟨q, hq⟩ : ∃ q, (place y : Int) = q := ⟨_, rfl⟩
  rw [hp, hq] at hj
  have HX := Lib.hid hx
  have HY := Lib.hid hy
  have HP := Lib.hid hp
  have HQ := Lib.hid hq
  clear hx hy hp hq
  by_cases h : p < q
  · rw [if_pos h] at hj
    have HJ := Lib.hid hj
    clear hj
    have K0 := Kept.refl w
    go_enter Try.func41, Try.ntmps41
    go_wp2_with (first | (go_at_call 51; refine (rclean_as (by assumption) _).mono ?_; rintro e w' ⟨rfl, rfl⟩) | (go_at_call 55; refine (place_as (by assumption) (by assumption) _).mono ?_; rintro e w' ⟨rfl, hk⟩; replace K0 := K0.trans hk; clear hk))
    go_ret
    exact ⟨ret_int HJ.out.symm, K0⟩
  · rw [if_neg h] at hj
    have HJ := Lib.hid hj
    clear hj
    have K0 := Kept.refl w
    go_enter Try.func41, Try.ntmps41
    go_wp2_with (first | (go_at_call 51; refine (rclean_as (by assumption) _).mono ?_; rintro e w' ⟨rfl, rfl⟩) | (go_at_call 55; refine (place_as (by assumption) (by assumption) _).mono ?_; rintro e w' ⟨rfl, hk⟩; replace K0 := K0.trans hk; clear hk))
    go_ret
    exact ⟨ret_int HJ.out.symm, K0⟩


end Go.Proofs.Ytplkhinjlgmilaa.Cd
