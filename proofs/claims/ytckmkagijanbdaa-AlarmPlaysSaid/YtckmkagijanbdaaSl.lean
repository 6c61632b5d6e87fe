/- Contracts of package slot, and of the document's own size: what each function returns, and that it leaves memory as it was. -/
import Derived.Test.YtckmkagijanbdaaTk
import Derived.Test.YtckmkagijanbdaaSlMath
import Derived.LoopTactic
import Derived.BigQuiet
import Derived.Lib.QuietBelow
import Derived.Laws.BitsAllLaws
import Derived.Deep.RegionHeld3
namespace Go.Proofs.Ytckmkagijanbdaa.Sl
open Go.RowKit Tk

theorem ret_two {a b c d : Int} (h : a = b) (h2 : c = d) : Ending.returned (.tuple #[.int .i64 a, .int .i64 c]) = .returned (.tuple #[.int .i64 b, .int .i64 d]) := by rw [h, h2]

theorem wrap_small (n : Nat) (h : n < 9223372036854775808) : IntKind.i64.wrap (n : Int) = (n : Int) := by
  have e : (n : Int) % 2 ^ 64 = n := Int.emod_eq_of_lt (by omega) (by omega)
  simp only [IntKind.wrap, IntKind.bits, IntKind.signed, e]
  rw [if_neg]
  simp
  omega

theorem and_hi (x k : Nat) (hk : k ≤ 64) (h : x < 2 ^ 64) : x &&& (2 ^ 64 - 2 ^ k) = x - x % 2 ^ k := by
  have e : 2 ^ 64 - 2 ^ k = (2 ^ (64 - k) - 1) <<< k := by
    rw [Nat.shiftLeft_eq, Nat.sub_mul, ← Nat.pow_add, Nat.sub_add_cancel hk, Nat.one_mul]
  apply Nat.eq_of_testBit_eq
  intro i
  have e2 : x - x % 2 ^ k = (x >>> k) <<< k := by
    rw [Nat.shiftLeft_eq, Nat.shiftRight_eq_div_pow]
    have := Nat.div_add_mod x (2 ^ k)
    rw [Nat.mul_comm]; omega
  rw [e, e2, Nat.testBit_and, Nat.testBit_shiftLeft, Nat.testBit_shiftLeft, Nat.testBit_shiftRight, Nat.testBit_two_pow_sub_one]
  by_cases hi : k ≤ i
  · rw [show k + (i - k) = i by omega]
    by_cases h2 : i < 64
    · rw [show decide (i - k < 64 - k) = true by simp; omega]; simp [hi]
    · rw [Nat.testBit_lt_two_pow (show x < 2 ^ i from Nat.lt_of_lt_of_le h (Nat.pow_le_pow_right (by omega) (by omega)))]; simp
  · simp [hi]

theorem andNot_low (x k : Nat) (hk : k ≤ 60) (h : x < 9223372036854775808) : bits .andNot .i64 (x : Int) ((2 ^ k - 1 : Nat) : Int) = ((x - x % 2 ^ k : Nat) : Int) := by
  show IntKind.i64.wrap ((BitVec.ofInt 64 (x : Int) &&& ~~~BitVec.ofInt 64 ((2 ^ k - 1 : Nat) : Int)).toNat : Int) = _
  have hp : 2 ^ k ≤ 2 ^ 60 := Nat.pow_le_pow_right (by omega) hk
  have hp0 := Nat.two_pow_pos k
  rw [BitVec.toNat_and, BitVec.toNat_not, ofInt_u64 x (by omega), ofInt_u64 (2 ^ k - 1) (by omega)]
  rw [show 2 ^ 64 - 1 - (2 ^ k - 1) = 2 ^ 64 - 2 ^ k by omega, and_hi x k (by omega) (by omega)]
  exact wrap_small _ (by omega)

theorem andNot_i (x : Int) (k m : Nat) (hk : k ≤ 60) (hm : 2 ^ k = m) (h0 : 0 ≤ x) (h : x < 9223372036854775808) : bits .andNot .i64 x ((m : Int) - 1) = x - x % (m : Int) := by
  subst hm
  obtain ⟨n, rfl⟩ := Int.eq_ofNat_of_zero_le h0
  have hp0 := Nat.two_pow_pos k
  have e : (((2 ^ k : Nat) : Int) - 1) = ((2 ^ k - 1 : Nat) : Int) := by omega
  have hm : n % 2 ^ k ≤ n := Nat.mod_le _ _
  rw [e]
  have := andNot_low n k hk (by omega)
  show bits .andNot .i64 ((n : Nat) : Int) _ = _
  rw [this]
  rw [Int.ofNat_sub hm]
  push_cast
  rfl

theorem not_6 (x : Int) (h0 : 0 ≤ x) (h : x ≤ 1125899906842624) : bits .andNot .i64 x 63 = x - x % 64 := andNot_i x 6 64 (by omega) rfl h0 (by omega)
theorem not_12 (x : Int) (h0 : 0 ≤ x) (h : x ≤ 1125899906842624) : bits .andNot .i64 x 4095 = x - x % 4096 := andNot_i x 12 4096 (by omega) rfl h0 (by omega)
theorem not_18 (x : Int) (h0 : 0 ≤ x) (h : x ≤ 1125899906842624) : bits .andNot .i64 x 262143 = x - x % 262144 := andNot_i x 18 262144 (by omega) rfl h0 (by omega)
theorem not_24 (x : Int) (h0 : 0 ≤ x) (h : x ≤ 1125899906842624) : bits .andNot .i64 x 16777215 = x - x % 16777216 := andNot_i x 24 16777216 (by omega) rfl h0 (by omega)

set_option maxHeartbeats 400000 in
theorem among_any (n c : Int) (w : World) :
    Calls Try.prog 78 #[.int .i64 n, .int .i64 c] w fun e w' => e = .returned (.bool (decide (0 ≤ n ∧ n < c))) ∧ w = w' := by
  go_enter Try.func78, Try.ntmps78
  go_wp2
  all_goals go_ret
  all_goals exact ⟨ret_bool (by first | rfl | (simp; try omega)), rfl⟩

set_option maxHeartbeats 400000 in
theorem turn_any (t l : Int) (h0 : 0 ≤ t) (h1 : t ≤ 1125899906842624) (hl : 0 ≤ l) (hl2 : l < 4) (w : World) :
    Calls Try.prog 77 #[.int .i64 t, .int .i64 l] w fun e w' => e = .returned (.int .i64 (low t l)) ∧ w = w' := by
  have e6 := not_6 t h0 h1
  have e12 := not_12 t h0 h1
  have e18 := not_18 t h0 h1
  have e24 := not_24 t h0 h1
  rcases (show l = 0 ∨ l = 1 ∨ l = 2 ∨ l = 3 by omega) with rfl | rfl | rfl | rfl
  · go_enter Try.func77, Try.ntmps77
    go_wp2
    go_ret
    exact ⟨ret_int (by rw [low_0]), rfl⟩
  · go_enter Try.func77, Try.ntmps77
    go_wp2
    go_ret
    exact ⟨ret_int (by rw [low_1]), rfl⟩
  · go_enter Try.func77, Try.ntmps77
    go_wp2
    go_ret
    exact ⟨ret_int (by rw [low_2]), rfl⟩
  · go_enter Try.func77, Try.ntmps77
    go_wp2
    go_ret
    exact ⟨ret_int (by rw [low_3]), rfl⟩

set_option maxHeartbeats 400000 in
theorem part_any (t l : Int) (w : World) :
    Calls Try.prog 61 #[.int .i64 t, .int .i64 l] w fun e w' => e = .returned (.int .i64 (part t l)) ∧ w = w' := by
  have h0 := clamp_lo t
  have h1 := clamp_hi t
  by_cases h : 0 ≤ l ∧ l < 4
  · have hA : decide (0 ≤ l ∧ l < 4) = true := decide_eq_true h
    have c1 := fun w => among_any l 4 w
    rw [hA] at c1
    have C1 := Lib.hid c1
    clear c1 hA
    have HP : RowKit.Hid (part t l = clamp t / sz l % 64) := Lib.hid (if_pos h)
    obtain ⟨hl, hl2⟩ := h
    rcases (show l = 0 ∨ l = 1 ∨ l = 2 ∨ l = 3 by omega) with rfl | rfl | rfl | rfl
    all_goals
      go_enter Try.func61, Try.ntmps61
      go_wp2_with (first | (go_at_call 78; refine (C1.out _).mono ?_; rintro e w' ⟨rfl, rfl⟩) | (go_at_call 35; refine (clamp_any _ _).mono ?_; rintro e w' ⟨rfl, rfl⟩))
      go_ret
      exact ⟨ret_int (by rw [HP.out]; unfold sz; simp), rfl⟩
  · have hA : decide (0 ≤ l ∧ l < 4) = false := decide_eq_false h
    have c1 := fun w => among_any l 4 w
    rw [hA] at c1
    have C1 := Lib.hid c1
    clear c1 hA
    have HP : RowKit.Hid (part t l = 0) := Lib.hid (if_neg h)
    clear h
    go_enter Try.func61, Try.ntmps61
    go_wp2_with (first | (go_at_call 78; refine (C1.out _).mono ?_; rintro e w' ⟨rfl, rfl⟩) | (go_at_call 35; refine (clamp_any _ _).mono ?_; rintro e w' ⟨rfl, rfl⟩))
    go_ret
    exact ⟨ret_int HP.out.symm, rfl⟩

set_option maxHeartbeats 400000 in
theorem turnAll_any (t : Int) (w : World) :
    Calls Try.prog 64 #[.int .i64 t] w fun e w' => e = .returned (.int .i64 (turnAll t)) ∧ w = w' := by
  have C := Lib.hid (fun w => turn_any (clamp t) 3 (clamp_lo t) (clamp_hi t) (by omega) (by omega) w)
  go_enter Try.func64, Try.ntmps64
  go_wp2_with (first | (go_at_call 77; refine (C.out _).mono ?_; rintro e w' ⟨rfl, rfl⟩) | (go_at_call 35; refine (clamp_any _ _).mono ?_; rintro e w' ⟨rfl, rfl⟩))
  go_ret
  exact ⟨rfl, rfl⟩

end Go.Proofs.Ytckmkagijanbdaa.Sl
