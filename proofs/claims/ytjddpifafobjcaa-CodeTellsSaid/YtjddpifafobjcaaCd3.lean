/- The document's answers of layer 5. -/
import Derived.Test.YtjddpifafobjcaaCd2
import Derived.Deep.QuietTactic
import Derived.BigQuiet
namespace Go.Proofs.Ytjddpifafobjcaa.Cd
open Go.RowKit Go.Sort St

theorem rright_any (c : Int) (w : World) :
    Calls Try.prog 9 #[.int .i64 c] w fun e w' => e = .returned (.bool (right c)) ∧ w = w' := by
  by_cases h1 : 0 ≤ c
  · by_cases h2 : c ≤ 16
    · have h := Lib.hid (right_yes h1 h2)
      go_enter Try.func9, Try.ntmps9
      go_wp2_with fail
      go_ret
      exact ⟨ret_bool h.out.symm, rfl⟩
    · have h := Lib.hid (right_hi h2)
      go_enter Try.func9, Try.ntmps9
      go_wp2_with fail
      go_ret
      exact ⟨ret_bool h.out.symm, rfl⟩
  · have h := Lib.hid (right_lo h1)
    go_enter Try.func9, Try.ntmps9
    go_wp2_with fail
    go_ret
    exact ⟨ret_bool h.out.symm, rfl⟩

theorem rclean_any (c : Int) (w : World) :
    Calls Try.prog 11 #[.int .i64 c] w fun e w' => e = .returned (.int .i64 (clean c)) ∧ w = w' := by
  have hr := rright_any c w
  by_cases h1 : 0 ≤ c ∧ c ≤ 16
  · have h := Lib.hid (clean_of h1.1 h1.2)
    rw [right_yes h1.1 h1.2] at hr
    have HR := Lib.hid hr
    clear hr
    go_enter Try.func11, Try.ntmps11
    go_wp2_with (go_at_call 9; refine HR.out.mono ?_; rintro e w' ⟨rfl, rfl⟩)
    go_ret
    exact ⟨ret_int h.out.symm, rfl⟩
  · have h := Lib.hid (clean_out h1)
    rw [right_no h1] at hr
    have HR := Lib.hid hr
    clear hr
    go_enter Try.func11, Try.ntmps11
    go_wp2_with (go_at_call 9; refine HR.out.mono ?_; rintro e w' ⟨rfl, rfl⟩)
    go_ret
    exact ⟨ret_int h.out.symm, rfl⟩
theorem rclean_as {c x : Int} (h : Hid (clean c = x)) (w : World) : Calls Try.prog 11 #[.int .i64 c] w fun e w' => e = .returned (.int .i64 x) ∧ w = w' := by
  have := rclean_any c w
  rwa [h.out] at this

def rowL : List Value := nameL.map fun l => .string ⟨l.toArray⟩
theorem rowL_at (k : Nat) (h : k < 17) : rowL[k]'h = .string (nameB (k : Int)) := by
  rcases (by omega : k = 0 ∨ k = 1 ∨ k = 2 ∨ k = 3 ∨ k = 4 ∨ k = 5 ∨ k = 6 ∨ k = 7 ∨ k = 8 ∨ k = 9 ∨ k = 10 ∨ k = 11 ∨ k = 12 ∨ k = 13 ∨ k = 14 ∨ k = 15 ∨ k = 16) with
    rfl | rfl | rfl | rfl | rfl | rfl | rfl | rfl | rfl | rfl | rfl | rfl | rfl | rfl | rfl | rfl | rfl <;> rfl
theorem rtext_any (c : Int) (w : World) :
    Calls Try.prog 13 #[.int .i64 c] w fun e w' => e = .returned (.string (nameB (clean c))) ∧ Kept w w' := by
  have h0 := clean_lo c
  have h1 := clean_hi c
  obtain ⟨x, hx⟩ : ∃ x, clean c = x := ⟨_, rfl⟩
  rw [hx] at h0 h1 ⊢
  obtain ⟨k, rfl⟩ : ∃ k : Nat, x = k := ⟨x.toNat, by omega⟩
  have hk : k < 17 := by omega
  have HX := Lib.hid hx
  clear hx h0 h1
  go_enter Try.func13, Try.ntmps13
  go_wp2_with (first | (go_at_call 11; refine (rclean_as (by assumption) _).mono ?_; rintro e w' ⟨rfl, rfl⟩))
  go_ret
  exact ⟨congrArg Ending.returned (rowL_at k hk), (Kept.refl w).grow #[_]⟩


theorem rtext_as {c : Int} {B : ByteArray} (h : Hid (nameB (clean c) = B)) (w : World) : Calls Try.prog 13 #[.int .i64 c] w fun e w' => e = .returned (.string B) ∧ Kept w w' := by
  have := rtext_any c w
  rwa [h.out] at this

set_option maxHeartbeats 1000000 in
theorem rparse_any (s : ByteArray) (w : World) :
    Calls Try.prog 7 #[.string s] w fun e w' => e = .returned (.tuple #[.int .i64 (codeI s), .bool (codeB s)]) ∧ Kept w w' := by
  go_enter Try.func7, Try.ntmps7
  go_wp2_with fail
  go_loopw [4] (fun i wr => ∃ k : Nat, k ≤ 17 ∧ i = .int .i64 (k : Int) ∧ Hid (codeOf s = find s (17 - k) k) ∧ Kept w wr) (fun i _ => 17 - (intOf i).toNat)
  case atStart => exact ⟨0, by omega, rfl, rfl, Kept.refl w⟩
  case round =>
    obtain ⟨k, hk1, rfl, hf, hkw⟩ := hrel
    by_cases hlt : k < 17
    · obtain ⟨B, hB⟩ : ∃ B, nameB (k : Int) = B := ⟨_, rfl⟩
      have HC := Lib.hid (show nameB (clean (k : Int)) = B by rw [clean_of (by omega) (by omega)]; exact hB)
      have HB := Lib.hid hB
      clear hB
      obtain ⟨m, hm⟩ : ∃ m, 17 - k = m + 1 := ⟨16 - k, by omega⟩
      by_cases he : B = s
      · subst he
        have hc : Hid (codeOf B = some k) := by show _ = _; rw [hf.out, hm, find_yes HB.out]
        go_wp2_with (go_at_call 13; refine (rtext_as (by assumption) _).mono ?_; rintro e w' ⟨rfl, hk2⟩)
        go_ret2
        exact ⟨ret_two (by rw [codeI, hc.out]; rfl) (by rw [codeB, hc.out]; rfl), hkw.trans hk2⟩
      · have hc : Hid (codeOf s = find s (17 - (k + 1)) (k + 1)) := by show _ = _; rw [hf.out, hm, find_no (by rw [HB.out]; exact he), show 17 - (k + 1) = m by omega]
        have ht := same_text he
        clear he
        go_wp2_with (go_at_call 13; refine (rtext_as (by assumption) _).mono ?_; rintro e w' ⟨rfl, hk2⟩)
        go_roundw
        case rel => exact ⟨k + 1, by omega, by go_num, hc, hkw.trans hk2⟩
        case measure => simp [intOf]; omega
    · have hc : Hid (codeOf s = none) := by show _ = _; rw [hf.out, show 17 - k = 0 by omega]; rfl
      go_wp2_with fail
      go_ret2
      exact ⟨ret_two (by rw [codeI, hc.out]; rfl) (by rw [codeB, hc.out]; rfl), hkw⟩

/-- what says more and more -/
def ord : List Int := [0, 14, 8, 2, 3, 5, 6, 7, 9, 10, 11, 12, 13, 15, 16, 4, 1]
def pl (x : Int) : Nat → Nat → Nat
  | 0, _ => 0
  | n + 1, k => if ord.getD k 0 = x then k else pl x n (k + 1)
def place (x : Int) : Nat := pl x 17 0
theorem pl_yes {x : Int} {n k : Nat} (h : ord.getD k 0 = x) : pl x (n + 1) k = k := by rw [pl, if_pos h]
theorem pl_no {x : Int} {n k : Nat} (h : ¬ ord.getD k 0 = x) : pl x (n + 1) k = pl x n (k + 1) := by rw [pl, if_neg h]
def ordV : Array Value := (ord.map (Value.int .i64)).toArray
theorem ord_at (k : Nat) (h : k < 17) : ordV[k]? = some (.int .i64 (ord.getD k 0)) := by
  have : k < ord.length := h
  simp [ordV, this]
set_option maxHeartbeats 1000000 in
theorem place_any (c : Int) (w : World) :
    Calls Try.prog 22 #[.int .i64 c] w fun e w' => e = .returned (.int .i64 (place (clean c) : Int)) ∧ Kept w w' := by
  obtain ⟨x, hx⟩ : ∃ x, clean c = x := ⟨_, rfl⟩
  have HX := Lib.hid hx
  rw [hx]
  clear hx
  go_enter Try.func22, Try.ntmps22
  go_wp2_with fail
  go_loopw [4] (fun i wr => ∃ k : Nat, k ≤ 17 ∧ i = .int .i64 (k : Int) ∧ Hid (place x = pl x (17 - k) k) ∧ Kept w wr ∧ Hid (wr.heap[w.heap.size]? = some (.cells ordV 3 (0, 0)))) (fun i _ => 17 - (intOf i).toNat)
  case atStart => exact ⟨0, by omega, rfl, rfl, (Kept.refl w).grow #[_], blk_new w _⟩
  case round =>
    obtain ⟨k, hk1, rfl, hf, hkw, hb⟩ := hrel
    by_cases hlt : k < 17
    · obtain ⟨v, hv⟩ : ∃ v, ord.getD k 0 = v := ⟨_, rfl⟩
      obtain ⟨m, hm⟩ : ∃ m, 17 - k = m + 1 := ⟨16 - k, by omega⟩
      have HV := Lib.hid hv
      have hc : wr.cell? ⟨w.heap.size, k, none⟩ = some (.int .i64 v) := by rw [blk_cell hb.out, ord_at k hlt, hv]
      clear hv
      have hs := IntWalk.i64_in ((k : Int) + 1) (by omega)
      by_cases he : v = x
      · subst he
        have hp : Hid (place v = k) := by show _ = _; rw [hf.out, hm, pl_yes HV.out]
        go_wp2_with fail
        go_quiet (first | (go_at_call 11; exact Calls.quiet_of_same ((rclean_as HX _).mono fun _ _ h => ⟨h.1, h.2.symm⟩)))
        go_wp2_with fail
        go_ret
        exact ⟨ret_int (by rw [hp.out]), hkw.drewN nq⟩
      · have hp : Hid (place x = pl x (17 - (k + 1)) (k + 1)) := by show _ = _; rw [hf.out, hm, pl_no (by rw [HV.out]; exact he), show 17 - (k + 1) = m by omega]
        have ht : (v == x) = false := beq_eq_false_iff_ne.2 he
        clear he
        go_wp2_with fail
        go_quiet (first | (go_at_call 11; exact Calls.quiet_of_same ((rclean_as HX _).mono fun _ _ h => ⟨h.1, h.2.symm⟩)))
        go_wp2_with fail
        go_roundw
        case rel => exact ⟨k + 1, by omega, by go_num, hp, hkw.drewN nq, hb⟩
        case measure => simp [intOf]; omega
    · have hp : Hid (place x = 0) := by show _ = _; rw [hf.out, show 17 - k = 0 by omega]; rfl
      go_wp2_with fail
      go_ret
      exact ⟨ret_int (by rw [hp.out]; rfl), hkw⟩

theorem place_as {c x p : Int} (h : Hid (clean c = x)) (k : Hid ((place x : Int) = p)) (w : World) : Calls Try.prog 22 #[.int .i64 c] w fun e w' => e = .returned (.int .i64 p) ∧ Kept w w' := by
  have := place_any c w
  rwa [h.out, k.out] at this
theorem says_place : ∀ x y : Fin 17, (says (x.val : Int) < says (y.val : Int)) ↔ ((place (x.val : Int) : Int) < (place (y.val : Int) : Int)) := by decide +kernel
theorem says_place' {x y : Int} (hx : 0 ≤ x ∧ x ≤ 16) (hy : 0 ≤ y ∧ y ≤ 16) : (says x < says y) ↔ ((place x : Int) < (place y : Int)) := by
  have h := says_place ⟨x.toNat, by omega⟩ ⟨y.toNat, by omega⟩
  simpa [Int.toNat_of_nonneg hx.1, Int.toNat_of_nonneg hy.1] using h
theorem join_place (a b : Int) : join a b = if (place (clean a) : Int) < (place (clean b) : Int) then clean b else clean a := by
  unfold join
  have h := says_place' ⟨clean_lo a, clean_hi a⟩ ⟨clean_lo b, clean_hi b⟩
  by_cases hs : says (clean a) < says (clean b)
  · rw [if_pos hs, if_pos (h.mp hs)]
  · rw [if_neg hs, if_neg (fun e => hs (h.mpr e))]

theorem rjoin_any (a b : Int) (w : World) :
    Calls Try.prog 16 #[.int .i64 a, .int .i64 b] w fun e w' => e = .returned (.int .i64 (join a b)) ∧ Kept w w' := by
  have hj := join_place a b
  obtain ⟨x, hx⟩ : ∃ x, clean a = x := ⟨_, rfl⟩
  obtain ⟨y, hy⟩ : ∃ y, clean b = y := ⟨_, rfl⟩
  rw [hx, hy] at hj
  obtain ⟨p, hp⟩ : ∃ p, (place x : Int) = p := ⟨_, rfl⟩
  obtain ⟨q, hq⟩ : ∃ q, (place y : Int) = q := ⟨_, rfl⟩
  rw [hp, hq] at hj
  have HX := Lib.hid hx
  have HY := Lib.hid hy
  have HP := Lib.hid hp
  have HQ := Lib.hid hq
  clear hx hy hp hq
  by_cases h : p < q
  · rw [if_pos h] at hj
    have HJ := Lib.hid hj
    clear hj
    have K0 := Kept.refl w
    go_enter Try.func16, Try.ntmps16
    go_wp2_with (first | (go_at_call 11; refine (rclean_as (by assumption) _).mono ?_; rintro e w' ⟨rfl, rfl⟩) | (go_at_call 22; refine (place_as (by assumption) (by assumption) _).mono ?_; rintro e w' ⟨rfl, hk⟩; replace K0 := K0.trans hk; clear hk))
    go_ret
    exact ⟨ret_int HJ.out.symm, K0⟩
  · rw [if_neg h] at hj
    have HJ := Lib.hid hj
    clear hj
    have K0 := Kept.refl w
    go_enter Try.func16, Try.ntmps16
    go_wp2_with (first | (go_at_call 11; refine (rclean_as (by assumption) _).mono ?_; rintro e w' ⟨rfl, rfl⟩) | (go_at_call 22; refine (place_as (by assumption) (by assumption) _).mono ?_; rintro e w' ⟨rfl, hk⟩; replace K0 := K0.trans hk; clear hk))
    go_ret
    exact ⟨ret_int HJ.out.symm, K0⟩

theorem rof_any (c : Int) (w : World) :
    Calls Try.prog 18 #[.int .i64 c] w fun e w' => e = .returned (.int .i64 (ofE c)) ∧ w = w' := by
  by_cases e0 : c = 0
  · subst e0
    go_enter Try.func18, Try.ntmps18
    go_wp2_with fail
    go_ret
    exact ⟨rfl, rfl⟩
  by_cases e1 : c = 11
  · subst e1
    go_enter Try.func18, Try.ntmps18
    go_wp2_with fail
    go_ret
    exact ⟨rfl, rfl⟩
  by_cases e2 : c = 6
  · subst e2
    go_enter Try.func18, Try.ntmps18
    go_wp2_with fail
    go_ret
    exact ⟨rfl, rfl⟩
  by_cases e3 : c = 7
  · subst e3
    go_enter Try.func18, Try.ntmps18
    go_wp2_with fail
    go_ret
    exact ⟨rfl, rfl⟩
  by_cases e4 : c = 1
  · subst e4
    go_enter Try.func18, Try.ntmps18
    go_wp2_with fail
    go_ret
    exact ⟨rfl, rfl⟩
  by_cases e5 : c = 2
  · subst e5
    go_enter Try.func18, Try.ntmps18
    go_wp2_with fail
    go_ret
    exact ⟨rfl, rfl⟩
  by_cases e6 : c = 9
  · subst e6
    go_enter Try.func18, Try.ntmps18
    go_wp2_with fail
    go_ret
    exact ⟨rfl, rfl⟩
  have h := Lib.hid (show ofE c = 13 by simp [ofE, e0, e1, e2, e3, e4, e5, e6])
  have t0 : (c == 0) = false := beq_eq_false_iff_ne.2 e0
  have t1 : (c == 11) = false := beq_eq_false_iff_ne.2 e1
  have t2 : (c == 6) = false := beq_eq_false_iff_ne.2 e2
  have t3 : (c == 7) = false := beq_eq_false_iff_ne.2 e3
  have t4 : (c == 1) = false := beq_eq_false_iff_ne.2 e4
  have t5 : (c == 2) = false := beq_eq_false_iff_ne.2 e5
  have t6 : (c == 9) = false := beq_eq_false_iff_ne.2 e6
  clear e0 e1 e2 e3 e4 e5 e6
  go_enter Try.func18, Try.ntmps18
  go_wp2_with fail
  go_ret
  exact ⟨ret_int h.out.symm, rfl⟩

end Go.Proofs.Ytjddpifafobjcaa.Cd
