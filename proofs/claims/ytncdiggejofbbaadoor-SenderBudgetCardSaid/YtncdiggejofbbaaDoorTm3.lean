/- Contracts of what is told: the document's own digits and text. -/
import Derived.Test.YtncdiggejofbbaaDoorTm
import Derived.BigQuiet
import Derived.Lib.QuietBelow
import Derived.Lib.ItoaWalk
import Derived.Lib.ItoaLen
namespace Go.Proofs.YtncdiggejofbbaaDoor.Tm
open Go.RowKit St Go.Sort

def tenDigits : ByteArray := ⟨#[48, 49, 50, 51, 52, 53, 54, 55, 56, 57]⟩
theorem digit_slice (d : Nat) (h : d < 10) : tenDigits.extract d (d + 1) = ⟨[UInt8.ofNat (48 + d)].toArray⟩ := by
  have hd : d = 0 ∨ d = 1 ∨ d = 2 ∨ d = 3 ∨ d = 4 ∨ d = 5 ∨ d = 6 ∨ d = 7 ∨ d = 8 ∨ d = 9 := by omega
  rcases hd with rfl | rfl | rfl | rfl | rfl | rfl | rfl | rfl | rfl | rfl <;> decide +kernel
/-- one digit, cut out of the row of digits -/
theorem digit_cut (d : Nat) (h : d < 10) : ∃ D : ByteArray, (∀ w,
    (Instr.slice 9 (.string { data := #[48, 49, 50, 51, 52, 53, 54, 55, 56, 57] }) (some (.int .i64 (d : Int))) (some (.int .i64 ((d : Int) + 1))) none).run Tryd.prog w = .ok (.string D) w) ∧
    RowKit.Hid (D.data.toList = [UInt8.ofNat (48 + d)]) ∧ RowKit.Hid (D.size = 1) := by
  refine ⟨tenDigits.extract d (d + 1), fun w => ?_, by show _ = _; rw [digit_slice d h], by show _ = _; rw [digit_slice d h]; rfl⟩
  rw [run_slice_string w 9 _ .i64 .i64 _ _ Tryd.underlying9 (by omega) (by omega) (by show ((d : Int) + 1) ≤ ((10 : Nat) : Int); omega), show ((d : Int)).toNat = d by omega, show ((d : Int) + 1).toNat = d + 1 by omega]
  rfl
/-- a number's digits, under a name -/
theorem digits_named (n : Nat) (h : n ≤ 4611686018427387904) : ∃ E : ByteArray, (⟨(Lib.decDigits n).toArray⟩ : ByteArray) = E ∧ E.data.toList = Lib.decDigits n ∧ E.size ≤ 20 :=
  ⟨_, rfl, rfl, by rw [size_list]; show (Lib.decDigits n).length ≤ 20; rw [Lib.decDigits_length]; exact Lib.nDigits_le20 n (by omega)⟩

set_option maxHeartbeats 1000000 in
theorem digits_any (k : Nat) : ∀ (n : Nat) (w : World), n < 10 ^ (k + 1) → n ≤ 4611686018427387904 →
    Calls Tryd.prog 70 #[.int .i64 (n : Int)] w fun e w' => e = .returned (.string ⟨(Lib.decDigits n).toArray⟩) ∧ Kept w w' := by
  have small : ∀ (n : Nat) (w : World), n < 10 →
      Calls Tryd.prog 70 #[.int .i64 (n : Int)] w fun e w' => e = .returned (.string ⟨(Lib.decDigits n).toArray⟩) ∧ Kept w w' := by
    intro n w hn
    obtain ⟨D, hcut, hD, hS⟩ := digit_cut n hn
    have HD := Lib.hid (Lib.decDigits_one hn)
    go_enter Tryd.func70, Tryd.ntmps70
    go_wp2_with fail
    go_ret
    exact ⟨ret_str (by rw [hD.out]; show _ = Lib.decDigits n; rw [HD.out]), Kept.refl _⟩
  induction k with
  | zero =>
    intro n w hn hm
    exact small n w (by simpa using hn)
  | succ k ih =>
    intro n w hn hm
    rcases Nat.lt_or_ge n 10 with hn' | hn'
    · exact small n w hn'
    · obtain ⟨q, hq⟩ : ∃ q, n / 10 = q := ⟨_, rfl⟩
      obtain ⟨r, hr⟩ : ∃ r, n % 10 = r := ⟨_, rfl⟩
      obtain ⟨E, hE, hEl, hEs⟩ := digits_named q (by omega)
      obtain ⟨D, hcut, hD, hS⟩ := digit_cut r (by omega)
      have hih : ∀ p : Regrown, Calls Tryd.prog 70 #[.int .i64 (q : Int)] (grow (redrawn w p.d) p.os) fun e w'' => e = .returned (.string E) ∧ ∃ p : Regrown, w'' = grow (redrawn w p.d) p.os :=
        fun p => Calls.regrown_of (by rw [← hE]; exact ih q _ (by rw [Nat.pow_succ] at hn; omega) (by omega))
      have IH := Lib.hid hih
      have HD := Lib.hid (show Lib.decDigits n = Lib.decDigits q ++ [UInt8.ofNat (48 + r)] by rw [Lib.decDigits, dif_neg (by omega), hq, hr])
      have n1 : ¬ 9223372036854775807 < E.size + D.size := by have := hS.out; omega
      have hlo : ¬ ((n : Int) < 10) := by omega
      have hq2 : (n : Int) / 10 = (q : Int) := by omega
      have hr2 : (n : Int) % 10 = (r : Int) := by omega
      have HE := Lib.hid hEl
      have hr9 : (r : Int) ≤ 9 := by omega
      clear hn ih hih small hE hEl hEs hq hr
      go_enter Tryd.func70, Tryd.ntmps70
      go_wp2_with fail
      refine wp_region_quiet_below (by kernel_rfl) (by kernel_rfl) ?_
      repeat (go_big_quiet_step (exact IH.out _))
      refine wpQuiet_nil ?_
      intro _ hw'
      obtain ⟨⟨dq, osq⟩, hw''⟩ := hw'
      subst hw''
      go_wp2_with fail
      go_ret
      exact ⟨ret_str (by simp [hD.out, HD.out, HE.out]), below_regrown w dq osq⟩

end Go.Proofs.YtncdiggejofbbaaDoor.Tm
