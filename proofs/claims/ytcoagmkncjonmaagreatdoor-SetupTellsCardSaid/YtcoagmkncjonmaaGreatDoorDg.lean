/- The document's digits, of any number. -/
import Derived.Test.YtcoagmkncjonmaaGreatDoorIt
import Derived.BigQuiet
import Derived.Lib.QuietBelow
import Derived.Lib.ItoaWalk
import Derived.Lib.ItoaLen
namespace Go.Proofs.YtcoagmkncjonmaaGreatDoor.Dg
open Go.RowKit St Go.Sort

def tenDigits : ByteArray := ⟨#[48, 49, 50, 51, 52, 53, 54, 55, 56, 57]⟩
theorem digit_slice (d : Nat) (h : d < 10) : tenDigits.extract d (d + 1) = ⟨[UInt8.ofNat (48 + d)].toArray⟩ := by
  have hd : d = 0 ∨ d = 1 ∨ d = 2 ∨ d = 3 ∨ d = 4 ∨ d = 5 ∨ d = 6 ∨ d = 7 ∨ d = 8 ∨ d = 9 := by omega
  rcases hd with rfl | rfl | rfl | rfl | rfl | rfl | rfl | rfl | rfl | rfl <;> decide +kernel
/-- one digit, cut out of the row of digits -/
theorem digit_cut (d : Nat) (h : d < 10) : ∃ D : ByteArray, (∀ w,
    (Instr.slice 9 (.string { data := #[48, 49, 50, 51, 52, 53, 54, 55, 56, 57] }) (some (.int .i64 (d : Int))) (some (.int .i64 ((d : Int) + 1))) none).run Tryz.prog w = .ok (.string D) w) ∧
    RowKit.Hid (D.data.toList = [UInt8.ofNat (48 + d)]) ∧ RowKit.Hid (D.size = 1) := by
  refine ⟨tenDigits.extract d (d + 1), fun w => ?_, by show _ = _; rw [digit_slice d h], by show _ = _; rw [digit_slice d h]; rfl⟩
  rw [run_slice_string w 9 _ .i64 .i64 _ _ Tryz.underlying9 (by omega) (by omega) (by show ((d : Int) + 1) ≤ ((10 : Nat) : Int); omega), show ((d : Int)).toNat = d by omega, show ((d : Int) + 1).toNat = d + 1 by omega]
  rfl
/-- a number's digits, under a name -/
theorem digits_named (n : Nat) (h : n ≤ 9223372036854775807) : ∃ E : ByteArray, (⟨(Lib.decDigits n).toArray⟩ : ByteArray) = E ∧ E.data.toList = Lib.decDigits n ∧ E.size ≤ 20 :=
  ⟨_, rfl, rfl, by rw [size_list]; show (Lib.decDigits n).length ≤ 20; rw [Lib.decDigits_length]; exact Lib.nDigits_le20 n (by omega)⟩

set_option maxHeartbeats 1000000 in
theorem digits_any (k : Nat) : ∀ (n : Nat) (w : World), n < 10 ^ (k + 1) → n ≤ 9223372036854775807 →
    Calls Tryz.prog 25 #[.int .i64 (n : Int)] w fun e w' => e = .returned (.string ⟨(Lib.decDigits n).toArray⟩) ∧ Kept w w' := by
  have small : ∀ (n : Nat) (w : World), n < 10 →
      Calls Tryz.prog 25 #[.int .i64 (n : Int)] w fun e w' => e = .returned (.string ⟨(Lib.decDigits n).toArray⟩) ∧ Kept w w' := by
    intro n w hn
    obtain ⟨D, hcut, hD, hS⟩ := digit_cut n hn
    have HD := Lib.hid (Lib.decDigits_one hn)
    go_enter Tryz.func25, Tryz.ntmps25
    go_wp2_with fail
    go_ret
    exact ⟨ret_str (by rw [hD.out]; show _ = Lib.decDigits n; rw [HD.out]), Kept.refl _⟩
  induction k with
  | zero =>
    intro n w hn hm
    exact small n w (by simpa using hn)
  | succ k ih =>
    intro n w hn hm
    rcases Nat.lt_or_ge n 10 with hn' | hn'
    · exact small n w hn'
    · obtain ⟨q, hq⟩ : ∃ q, n / 10 = q := ⟨_, rfl⟩
      obtain ⟨r, hr⟩ : ∃ r, n % 10 = r := ⟨_, rfl⟩
      obtain ⟨E, hE, hEl, hEs⟩ := digits_named q (by omega)
      obtain ⟨D, hcut, hD, hS⟩ := digit_cut r (by omega)
      have hih : ∀ p : Regrown, Calls Tryz.prog 25 #[.int .i64 (q : Int)] (grow (redrawn w p.d) p.os) fun e w'' => e = .returned (.string E) ∧ ∃ p : Regrown, w'' = grow (redrawn w p.d) p.os :=
        fun p => Calls.regrown_of (by rw [← hE]; exact ih q _ (by rw [Nat.pow_succ] at hn; omega) (by omega))
      have IH := Lib.hid hih
      have HD := Lib.hid (show Lib.decDigits n = Lib.decDigits q ++ [UInt8.ofNat (48 + r)] by rw [Lib.decDigits, dif_neg (by omega), hq, hr])
      have n1 : ¬ 9223372036854775807 < E.size + D.size := by have := hS.out; omega
      have hlo : ¬ ((n : Int) < 10) := by omega
      have hq2 : (n : Int) / 10 = (q : Int) := by omega
      have hr2 : (n : Int) % 10 = (r : Int) := by omega
      have HE := Lib.hid hEl
      have hr9 : (r : Int) ≤ 9 := by omega
      clear hn ih hih small hE hEl hEs hq hr
      go_enter Tryz.func25, Tryz.ntmps25
      go_wp2_with fail
      refine wp_region_quiet_below (by kernel_rfl) (by kernel_rfl) ?_
      repeat (go_big_quiet_step (exact IH.out _))
      refine wpQuiet_nil ?_
      intro _ hw'
      obtain ⟨⟨dq, osq⟩, hw''⟩ := hw'
      subst hw''
      go_wp2_with fail
      go_ret
      exact ⟨ret_str (by simp [hD.out, HD.out, HE.out]), below_regrown w dq osq⟩

theorem digits_all (n : Nat) (E : ByteArray) (hE : (⟨(Lib.decDigits n).toArray⟩ : ByteArray) = E) (w : World) (hn : n ≤ 9223372036854775807) :
    Calls Tryz.prog 25 #[.int .i64 (n : Int)] w fun e w' => e = .returned (.string E) ∧ Kept w w' := by
  rw [← hE]
  exact digits_any 18 n w (by omega) hn

set_option maxHeartbeats 1000000 in
theorem digits_neg (u : Nat) (h1 : 1 ≤ u) (hu : u ≤ 9223372036854775808) (w : World) :
    Calls Tryz.prog 25 #[.int .i64 (-(u : Int))] w fun e w' => e = .returned (.string ⟨(45 :: Lib.decDigits u).toArray⟩) ∧ Kept w w' := by
  obtain ⟨m, hm⟩ : ∃ m : Int, -(u : Int) = m := ⟨_, rfl⟩
  rw [hm]
  have hm0 : m < 0 := by omega
  rcases Nat.lt_or_ge u 10 with h10 | h10
  · obtain ⟨E, hE, hEl, hEs⟩ := digits_named u (by omega)
    have hs : 0 - m = (u : Int) := by omega
    have hm1 : -10 < m := by omega
    have HD := Lib.hid (digits_all u E hE)
    have HE := Lib.hid hEl
    have n1 : ¬ 9223372036854775807 < 1 + E.size := by omega
    have HU := Lib.hid (show u ≤ 9223372036854775807 by omega)
    clear hE hEl h10 hu
    go_enter Tryz.func25, Tryz.ntmps25
    go_wp2_with (go_at_call 25; refine (HD.out _ HU.out).mono ?_; rintro e w' ⟨rfl, hk⟩)
    go_ret
    exact ⟨ret_str (by simp [HE.out]), hk⟩
  · obtain ⟨q, hq⟩ : ∃ q, u / 10 = q := ⟨_, rfl⟩
    obtain ⟨r, hr⟩ : ∃ r, u % 10 = r := ⟨_, rfl⟩
    obtain ⟨a, ha⟩ : ∃ a : Int, m.tdiv 10 = a := ⟨_, rfl⟩
    obtain ⟨b, hb⟩ : ∃ b : Int, m.tmod 10 = b := ⟨_, rfl⟩
    have ha2 : a = -(q : Int) := by rw [← ha, ← hm, Int.neg_tdiv, Int.tdiv_eq_ediv_of_nonneg (by omega)]; omega
    have hb2 : b = -(r : Int) := by rw [← hb, ← hm, Int.neg_tmod, Int.tmod_eq_emod_of_nonneg (by omega)]; omega
    obtain ⟨E, hE, hEl, hEs⟩ := digits_named q (by omega)
    obtain ⟨D, hD, hDl, hDs⟩ := digits_named r (by omega)
    have HQ := Lib.hid (digits_all q E hE)
    have HR := Lib.hid (digits_all r D hD)
    have HE := Lib.hid hEl
    have HD := Lib.hid hDl
    have HS := Lib.hid (show Lib.decDigits u = Lib.decDigits q ++ Lib.decDigits r by rw [Lib.decDigits, dif_neg (by omega), hq, hr, Lib.decDigits_one (i := r) (by omega)])
    have hs2 : 0 - a = (q : Int) := by omega
    have hs3 : 0 - b = (r : Int) := by omega
    have n1 : ¬ 9223372036854775807 < 1 + E.size := by omega
    have n2 : ¬ 9223372036854775807 < (1 + E.size) + D.size := by omega
    have HU := Lib.hid (show q ≤ 9223372036854775807 by omega)
    have HV := Lib.hid (show r ≤ 9223372036854775807 by omega)
    have hm1 : ¬ -10 < m := by omega
    have hlo : -9223372036854775808 ≤ m := by omega
    have hq9 : (q : Int) ≤ 922337203685477580 := by omega
    have hr9 : (r : Int) ≤ 9 := by omega
    clear hE hEl hD hDl h10 hu hq hr h1 hm
    go_enter Tryz.func25, Tryz.ntmps25
    go_wp2_with (go_at_call 25; first | ((with_reducible refine (HQ.out _ HU.out).mono ?_); rintro e w' ⟨rfl, hk⟩) | ((with_reducible refine (HR.out _ HV.out).mono ?_); rintro e w' ⟨rfl, hk2⟩))
    go_ret
    exact ⟨ret_str (by simp [HE.out, HD.out, HS.out]), hk.trans hk2⟩

theorem digits_int (n : Int) (h0 : -9223372036854775808 ≤ n) (h1 : n ≤ 9223372036854775807) (E : ByteArray) (hE : Hid (E.data.toList = Lib.itoa n)) (w : World) :
    Calls Tryz.prog 25 #[.int .i64 n] w fun e w' => e = .returned (.string E) ∧ Kept w w' := by
  rcases Int.lt_or_le n 0 with h | h
  · obtain ⟨u, rfl⟩ : ∃ u : Nat, n = -(u : Int) := ⟨n.natAbs, by omega⟩
    refine (digits_neg u (by omega) (by omega) w).mono ?_
    rintro e w' ⟨rfl, hk⟩
    exact ⟨ret_str (by rw [hE.out, Lib.itoa_neg u (by omega)]), hk⟩
  · obtain ⟨u, rfl⟩ : ∃ u : Nat, n = (u : Int) := ⟨n.toNat, by omega⟩
    refine (digits_all u _ rfl w (by omega)).mono ?_
    rintro e w' ⟨rfl, hk⟩
    exact ⟨ret_str (by rw [hE.out, Lib.itoa_nonneg]), hk⟩

end Go.Proofs.YtcoagmkncjonmaaGreatDoor.Dg
