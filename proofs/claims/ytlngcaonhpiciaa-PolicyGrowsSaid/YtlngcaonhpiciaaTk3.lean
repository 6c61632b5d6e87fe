/- Contracts of package ticks, and of the document's own answers for it: the product by doubling, and the chapter's examples. -/
import Derived.Test.YtlngcaonhpiciaaTk2
import Derived.LoopTactic
namespace Go.Proofs.Ytlngcaonhpiciaa.Tk
open Go.RowKit

theorem add_id {a b : Int} (ha : 0 ≤ a) (ha2 : a ≤ 1125899906842624) (hb : 0 ≤ b) (hb2 : b ≤ 1125899906842624) : add a b = min (a + b) most := by
  unfold add; rw [clamp_id a ha ha2, clamp_id b hb hb2]

set_option maxHeartbeats 400000 in
theorem rmul_any (a : Int) (b : Int) (w : World) :
    Calls Try.prog 27 #[.int .i64 a, .int .i64 b] w fun e w' => e = .returned (.int .i64 (mul a b)) ∧ w = w' := by
  have ha := clamp_lo a
  have ha2 := clamp_hi a
  have hb := clamp_lo b
  have hb2 := clamp_hi b
  go_enter Try.func27, Try.ntmps27
  go_wp2_with (go_at_call 17; refine (rclamp_any _ _).mono ?_; rintro e w' ⟨rfl, rfl⟩)
  go_loop [0, 1, 5] (fun x y z => ∃ p q o : Int, 0 ≤ p ∧ p ≤ 1125899906842624 ∧ 0 ≤ q ∧ q ≤ 1125899906842624 ∧ 0 ≤ o ∧ o ≤ 1125899906842624 ∧ min (o + p * q) most = mul a b ∧ x = .int .i64 p ∧ y = .int .i64 q ∧ z = .int .i64 o) (fun _ y _ => (intOf y).toNat)
  case atStart => exact ⟨clamp a, clamp b, 0, ha, ha2, hb, hb2, by omega, by omega, by unfold mul; rw [Int.zero_add], rfl, rfl, rfl⟩
  case round =>
    obtain ⟨p, q, o, hp, hp2, hq, hq2, ho, ho2, he, rfl, rfl, rfl⟩ := hrel
    have HE := Lib.hid he; clear he
    have hpp := Lib.hid (add_id hp hp2 hp hp2)
    have hop := Lib.hid (add_id ho ho2 hp hp2)
    have hpl := add_lo p p
    have hph := add_hi p p
    have hol := add_lo o p
    have hoh := add_hi o p
    rcases Int.lt_or_le 0 q with h | h
    · by_cases hodd : q % 2 = 1
      · have hb1 : (q % 2 == 1) = true := by simpa using hodd
        have HD := Lib.hid (dbl_odd hp hq hodd o ho)
        clear hodd
        go_wp2_with (go_at_call 16; refine (radd_any _ _ _).mono ?_; rintro e w' ⟨rfl, rfl⟩)
        go_round
        case rel => exact ⟨add p p, q / 2, add o p, hpl, hph, by omega, by omega, hol, hoh, by rw [hpp.out, hop.out, HD.out, HE.out], rfl, rfl, rfl⟩
        case measure => simp [intOf]; omega
      · have hb1 : (q % 2 == 1) = false := by simpa using hodd
        have HD := Lib.hid (dbl_even hp hq (by omega) o ho)
        clear hodd
        go_wp2_with (go_at_call 16; refine (radd_any _ _ _).mono ?_; rintro e w' ⟨rfl, rfl⟩)
        go_round
        case rel => exact ⟨add p p, q / 2, o, hpl, hph, by omega, by omega, ho, ho2, by rw [hpp.out, HD.out, HE.out], rfl, rfl, rfl⟩
        case measure => simp [intOf]; omega
    · have hz : p * q = 0 := by rw [show q = 0 by omega]; simp
      have HO : RowKit.Hid (o = mul a b) := Lib.hid (by have := HE.out; rw [hz] at this; unfold most at this; omega)
      clear hz
      go_wp2
      go_ret
      exact ⟨ret_int HO.out, rfl⟩


end Go.Proofs.Ytlngcaonhpiciaa.Tk
