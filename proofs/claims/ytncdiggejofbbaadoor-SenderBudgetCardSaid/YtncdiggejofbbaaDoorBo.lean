/- Contracts of package backoff, and of the document's own answers for it: what each function returns, and that it leaves memory as it was. -/
import Derived.Test.YtncdiggejofbbaaDoorTk
import Derived.Test.YtncdiggejofbbaaDoorSt
import Derived.Lib.MinMax
import Derived.LoopTactic
import Derived.Laws.Closers25b
namespace Go.Proofs.YtncdiggejofbbaaDoor.Bo
open Go.RowKit St Go.Sort
set_option linter.unusedVariables false

/-- a span, doubled so many times -/
def dbl (b : Int) : Nat → Int
  | 0 => Tk.clamp b
  | k + 1 => Tk.add (dbl b k) (dbl b k)
/-- how many times it is doubled -/
def times (a : Int) : Nat := (min (max 1 a - 1) 64).toNat
/-- the wait without jitter -/
def step (b m a : Int) : Int := min (dbl b (times a)) (Tk.clamp m)
/-- a jitter, held to its whole -/
def jc (j : Int) : Int := max 0 (min j 1000)
/-- a wait with jitter -/
def late (x j : Int) : Int := x - x / 2 * jc j / 1000
/-- three numbers' lower 32 bits, put together -/
def mix (n s a : Int) : Int := bits .xor .u32 (bits .xor .u32 (n % 4294967296 * 2654435761 % 4294967296) (s % 4294967296 * 40503 % 4294967296)) (a % 4294967296 * 2246822519 % 4294967296)
/-- the jitter of an attempt -/
def jit (n s a : Int) : Int := wrap64 ((bits .xor .u32 (mix n s a) (mix n s a / 32768)).tmod 1001)

theorem dbl_lo (b : Int) : ∀ k, 0 ≤ dbl b k
  | 0 => Tk.clamp_lo _
  | k + 1 => Tk.add_lo _ _
theorem dbl_hi (b : Int) : ∀ k, dbl b k ≤ 1125899906842624
  | 0 => Tk.clamp_hi _
  | k + 1 => Tk.add_hi _ _
theorem dbl_up (b : Int) (k : Nat) : dbl b k ≤ dbl b (k + 1) := by
  have h := Tk.add_ge (dbl b k) (dbl b k)
  rw [Tk.clamp_id _ (dbl_lo b k) (dbl_hi b k)] at h
  exact h
theorem dbl_mono (b : Int) {k : Nat} : ∀ {n : Nat}, k ≤ n → dbl b k ≤ dbl b n
  | 0, h => by obtain rfl : k = 0 := by omega
               exact Int.le_refl _
  | n + 1, h => by
    rcases Nat.lt_or_ge k (n + 1) with h1 | h1
    · exact Int.le_trans (dbl_mono b (by omega)) (dbl_up b n)
    · obtain rfl : k = n + 1 := by omega
      exact Int.le_refl _
theorem times_int (a : Int) : ((times a : Nat) : Int) = min (max 1 a - 1) 64 := by unfold times; omega
theorem times_mono {a b : Int} (h : a ≤ b) : times a ≤ times b := by unfold times; omega
theorem step_lo (b m a : Int) : 0 ≤ step b m a := by have := dbl_lo b (times a); have := Tk.clamp_lo m; unfold step; omega
theorem step_hi (b m a : Int) : step b m a ≤ 1125899906842624 := by have := dbl_hi b (times a); unfold step; omega
theorem step_mono (b m : Int) {a c : Int} (h : a ≤ c) : step b m a ≤ step b m c := by have := dbl_mono b (times_mono h); unfold step; omega
theorem jc_lo (j : Int) : 0 ≤ jc j := by unfold jc; omega
theorem jc_hi (j : Int) : jc j ≤ 1000 := by unfold jc; omega
theorem jc_mono {j k : Int} (h : j ≤ k) : jc j ≤ jc k := by unfold jc; omega
theorem prod_lo {x : Int} (j : Int) (h : 0 ≤ x) : 0 ≤ x / 2 * jc j := Int.mul_nonneg (by omega) (jc_lo j)
theorem prod_hi {x : Int} (j : Int) (h : 0 ≤ x) : x / 2 * jc j ≤ x / 2 * 1000 := Int.mul_le_mul_of_nonneg_left (jc_hi j) (by omega)
theorem late_lo {x : Int} (j : Int) (h : 0 ≤ x) : x - x / 2 ≤ late x j := by have := prod_hi j h; unfold late; omega
theorem late_hi {x : Int} (j : Int) (h : 0 ≤ x) : late x j ≤ x := by have := prod_lo j h; unfold late; omega
theorem late_none (x : Int) : late x 0 = x := by unfold late; rw [show jc 0 = 0 from rfl]; simp
theorem late_all (x : Int) : late x 1000 = x - x / 2 := by unfold late; rw [show jc 1000 = 1000 from rfl]; omega
theorem late_mono {x j k : Int} (h : 0 ≤ x) (hj : j ≤ k) : late x k ≤ late x j := by
  have := Int.mul_le_mul_of_nonneg_left (jc_mono hj) (show 0 ≤ x / 2 by omega)
  unfold late; omega
theorem quo_mix (n s a : Int) : (mix n s a).tdiv 32768 % 4294967296 = mix n s a / 32768 := by
  have h : 0 ≤ mix n s a := bits_lo_u32 _ _ _
  have h2 : mix n s a ≤ 4294967295 := bits_hi_u32 _ _ _
  rw [Int.tdiv_eq_ediv_of_nonneg h]; omega
theorem jit_lo (n s a : Int) : 0 ≤ jit n s a := by
  have h := bits_lo_u32 .xor (mix n s a) (mix n s a / 32768)
  have h2 := Int.emod_nonneg (bits .xor .u32 (mix n s a) (mix n s a / 32768)) (show (1001 : Int) ≠ 0 by omega)
  have h3 := Int.emod_lt_of_pos (bits .xor .u32 (mix n s a) (mix n s a / 32768)) (show (0 : Int) < 1001 by omega)
  unfold jit
  rw [Int.tmod_eq_emod_of_nonneg h]
  unfold wrap64; omega
theorem jit_hi (n s a : Int) : jit n s a ≤ 1000 := by
  have h := bits_lo_u32 .xor (mix n s a) (mix n s a / 32768)
  have h2 := Int.emod_nonneg (bits .xor .u32 (mix n s a) (mix n s a / 32768)) (show (1001 : Int) ≠ 0 by omega)
  have h3 := Int.emod_lt_of_pos (bits .xor .u32 (mix n s a) (mix n s a / 32768)) (show (0 : Int) < 1001 by omega)
  unfold jit
  rw [Int.tmod_eq_emod_of_nonneg h]
  unfold wrap64; omega

set_option maxHeartbeats 400000 in
theorem jitter_any (n s a : Int) (w : World) :
    Calls Tryd.prog 45 #[.int .i64 n, .int .i64 s, .int .i64 a] w fun e w' => e = .returned (.int .i64 (jit n s a)) ∧ w = w' := by
  go_enter Tryd.func45, Tryd.ntmps45
  go_wp2
  all_goals go_ret
  all_goals exact ⟨rfl, rfl⟩

set_option maxHeartbeats 400000 in
theorem rjitter_any (n s a : Int) (w : World) :
    Calls Tryd.prog 47 #[.int .i64 n, .int .i64 s, .int .i64 a] w fun e w' => e = .returned (.int .i64 (jit n s a)) ∧ w = w' := by
  have e := quo_mix n s a
  go_enter Tryd.func47, Tryd.ntmps47
  go_wp2
  all_goals go_ret
  all_goals exact ⟨ret_int (by show wrap64 ((bits .xor .u32 (mix n s a) ((mix n s a).tdiv 32768 % 4294967296)).tmod 1001) = _; rw [e]; rfl), rfl⟩

set_option maxHeartbeats 400000 in
theorem step_any (b m a : Int) (ha : a ≤ 9223372036854775807) (w : World) :
    Calls Tryd.prog 106 #[.int .i64 b, .int .i64 m, .int .i64 a] w fun e w' => e = .returned (.int .i64 (step b m a)) ∧ w = w' := by
  have hN := times_int a
  obtain ⟨N, hN2⟩ : ∃ N, times a = N := ⟨_, rfl⟩
  rw [hN2] at hN
  have HS := Lib.hid (show step b m a = min (dbl b N) (Tk.clamp m) by unfold step; rw [hN2])
  clear hN2
  obtain ⟨c, hc⟩ : ∃ c, max 1 a = c := ⟨_, rfl⟩
  rw [hc] at hN
  have hc1 : 1 ≤ c := by omega
  have hc2 : c ≤ 9223372036854775807 := by omega
  obtain ⟨y, hy⟩ : ∃ y, Tk.clamp m = y := ⟨_, rfl⟩
  obtain ⟨z, hz⟩ : ∃ z, Tk.clamp b = z := ⟨_, rfl⟩
  have C1 := Lib.hid (show ∀ u, Calls Tryd.prog 62 #[.int .i64 b] u fun e w' => e = .returned (.int .i64 z) ∧ u = w' from fun u => by rw [← hz]; exact Tk.clamp_any b u)
  have C2 := Lib.hid (show ∀ u, Calls Tryd.prog 62 #[.int .i64 m] u fun e w' => e = .returned (.int .i64 y) ∧ u = w' from fun u => by rw [← hy]; exact Tk.clamp_any m u)
  have HZ := Lib.hid hz
  have HY := Lib.hid hy
  clear hz hy
  go_enter Tryd.func106, Tryd.ntmps106
  go_wp2_with (go_at_call 62; refine (C1.out _).mono ?_; rintro e w' ⟨rfl, rfl⟩)
  go_loopw [7, 14] (fun x i wr => ∃ k : Nat, k ≤ N ∧ x = .int .i64 (dbl b k) ∧ i = .int .i64 (k : Int) ∧ w = wr) (fun _ i _ => N - (intOf i).toNat)
  case atStart => exact ⟨0, Nat.zero_le _, by rw [← HZ.out]; rfl, rfl, rfl⟩
  case round =>
    obtain ⟨k, hk, rfl, rfl, rfl⟩ := hrel
    obtain ⟨x, hx⟩ : ∃ x, dbl b k = x := ⟨_, rfl⟩
    rw [hx]
    by_cases hlt : k < N
    · have HX : Hid (Tk.add x x = dbl b (k + 1)) := by show _ = _; rw [← hx]; rfl
      clear hx
      go_wp2_with (go_at_call 82; refine (Tk.add_any _ _ _).mono ?_; rintro e w' ⟨rfl, rfl⟩)
      all_goals go_roundw
      case rel => exact ⟨k + 1, hlt, by rw [HX.out], by go_num, by trivial⟩
      case measure => simp [intOf]; omega
    · have hkl : k = N := by omega
      have HX : Hid (dbl b N = x) := by show _ = _; rw [← hx, hkl]
      clear hx
      go_wp2_with (go_at_call 62; refine (C2.out _).mono ?_; rintro e w' ⟨rfl, rfl⟩)
      go_ret
      exact ⟨ret_int (by rw [HS.out, HX.out, HY.out]), rfl⟩

set_option maxHeartbeats 400000 in
theorem rstep_any (b m a : Int) (w : World) :
    Calls Tryd.prog 107 #[.int .i64 b, .int .i64 m, .int .i64 a] w fun e w' => e = .returned (.int .i64 (step b m a)) ∧ w = w' := by
  have hN := times_int a
  obtain ⟨N, hN2⟩ : ∃ N, times a = N := ⟨_, rfl⟩
  rw [hN2] at hN
  have HS := Lib.hid (show step b m a = min (dbl b N) (Tk.clamp m) by unfold step; rw [hN2])
  clear hN2
  have hN3 : (N : Int) + 1 < a ∧ N < 64 ∨ (¬ (N : Int) + 1 < a) ∧ N ≤ 64 ∨ N = 64 := by omega
  obtain ⟨y, hy⟩ : ∃ y, Tk.clamp m = y := ⟨_, rfl⟩
  obtain ⟨z, hz⟩ : ∃ z, Tk.clamp b = z := ⟨_, rfl⟩
  have C1 := Lib.hid (show ∀ u, Calls Tryd.prog 30 #[.int .i64 b] u fun e w' => e = .returned (.int .i64 z) ∧ u = w' from fun u => by rw [← hz]; exact Tk.rclamp_any b u)
  have C2 := Lib.hid (show ∀ u, Calls Tryd.prog 30 #[.int .i64 m] u fun e w' => e = .returned (.int .i64 y) ∧ u = w' from fun u => by rw [← hy]; exact Tk.rclamp_any m u)
  have HZ := Lib.hid hz
  have HY := Lib.hid hy
  clear hz hy
  go_enter Tryd.func107, Tryd.ntmps107
  go_wp2_with (first | (go_at_call 30; (with_reducible refine (C1.out _).mono ?_); rintro e w' ⟨rfl, rfl⟩) | (go_at_call 30; (with_reducible refine (C2.out _).mono ?_); rintro e w' ⟨rfl, rfl⟩))
  go_loopw [0, 7] (fun x i wr => ∃ k : Nat, k ≤ N ∧ x = .int .i64 (dbl b k) ∧ i = .int .i64 ((k : Int) + 1) ∧ w = wr) (fun _ i _ => N + 1 - (intOf i).toNat)
  case atStart => exact ⟨0, Nat.zero_le _, by rw [← HZ.out]; rfl, rfl, rfl⟩
  case round =>
    obtain ⟨k, hk, rfl, rfl, rfl⟩ := hrel
    obtain ⟨x, hx⟩ : ∃ x, dbl b k = x := ⟨_, rfl⟩
    rw [hx]
    by_cases hlt : k < N
    · have HX : Hid (Tk.add x x = dbl b (k + 1)) := by show _ = _; rw [← hx]; rfl
      clear hx
      go_wp2_with (go_at_call 104; refine (Tk.radd_any _ _ _).mono ?_; rintro e w' ⟨rfl, rfl⟩)
      all_goals go_roundw
      case rel => exact ⟨k + 1, hlt, by rw [HX.out], by go_num, by trivial⟩
      case measure => simp [intOf]; omega
    · have hkl : k = N := by omega
      have HX : Hid (dbl b N = x) := by show _ = _; rw [← hx, hkl]
      clear hx
      go_wp2_with fail
      all_goals go_ret
      all_goals exact ⟨ret_int (by rw [HS.out, HX.out, HY.out]; omega), rfl⟩

set_option maxHeartbeats 400000 in
theorem delay_any (b m a j : Int) (ha : a ≤ 9223372036854775807) (w : World) :
    Calls Tryd.prog 102 #[.int .i64 b, .int .i64 m, .int .i64 a, .int .i64 j] w fun e w' => e = .returned (.int .i64 (late (step b m a) j)) ∧ w = w' := by
  obtain ⟨x, hx⟩ : ∃ x, step b m a = x := ⟨_, rfl⟩
  have hx0 : 0 ≤ x := by rw [← hx]; exact step_lo b m a
  have hx1 : x ≤ 1125899906842624 := by rw [← hx]; exact step_hi b m a
  have C1 := Lib.hid (show ∀ u, Calls Tryd.prog 106 #[.int .i64 b, .int .i64 m, .int .i64 a] u fun e w' => e = .returned (.int .i64 x) ∧ u = w' from fun u => by rw [← hx]; exact step_any b m a ha u)
  rw [hx]; clear hx
  obtain ⟨c, hc⟩ : ∃ c, jc j = c := ⟨_, rfl⟩
  have h0 := prod_lo j hx0
  have h1 := prod_hi j hx0
  have HL := Lib.hid (show late x j = x - x / 2 * c / 1000 by rw [← hc]; rfl)
  rw [hc] at h0 h1
  have hc2 : max 0 (min j 1000) = c := hc
  clear hc
  go_enter Tryd.func102, Tryd.ntmps102
  go_wp2_with (go_at_call 106; refine (C1.out _).mono ?_; rintro e w' ⟨rfl, rfl⟩)
  all_goals go_ret
  all_goals exact ⟨ret_int HL.out.symm, rfl⟩

set_option maxHeartbeats 400000 in
theorem rdelay_any (b m a j : Int) (w : World) :
    Calls Tryd.prog 103 #[.int .i64 b, .int .i64 m, .int .i64 a, .int .i64 j] w fun e w' => e = .returned (.int .i64 (late (step b m a) j)) ∧ w = w' := by
  obtain ⟨x, hx⟩ : ∃ x, step b m a = x := ⟨_, rfl⟩
  have hx0 : 0 ≤ x := by rw [← hx]; exact step_lo b m a
  have hx1 : x ≤ 1125899906842624 := by rw [← hx]; exact step_hi b m a
  have C1 := Lib.hid (show ∀ u, Calls Tryd.prog 107 #[.int .i64 b, .int .i64 m, .int .i64 a] u fun e w' => e = .returned (.int .i64 x) ∧ u = w' from fun u => by rw [← hx]; exact rstep_any b m a u)
  rw [hx]; clear hx
  have h0 := prod_lo j hx0
  have h1 := prod_hi j hx0
  rcases Int.lt_or_le j 0 with hj | hj
  · have HL := Lib.hid (show late x j = x by unfold late; rw [show jc j = 0 by unfold jc; omega]; simp)
    clear h0 h1
    go_enter Tryd.func103, Tryd.ntmps103
    go_wp2_with (go_at_call 107; refine (C1.out _).mono ?_; rintro e w' ⟨rfl, rfl⟩)
    all_goals go_ret
    all_goals exact ⟨ret_int (by rw [HL.out]), rfl⟩
  · rcases Int.lt_or_le 1000 j with hk | hk
    · have HL := Lib.hid (show late x j = x - x / 2 * 1000 / 1000 by unfold late; rw [show jc j = 1000 by unfold jc; omega])
      clear h0 h1
      go_enter Tryd.func103, Tryd.ntmps103
      go_wp2_with (go_at_call 107; refine (C1.out _).mono ?_; rintro e w' ⟨rfl, rfl⟩)
      all_goals go_ret
      all_goals exact ⟨ret_int (by rw [HL.out]; omega), rfl⟩
    · have hjc : jc j = j := by unfold jc; omega
      have HL := Lib.hid (show late x j = x - x / 2 * j / 1000 by unfold late; rw [hjc])
      rw [hjc] at h0 h1
      clear hjc
      go_enter Tryd.func103, Tryd.ntmps103
      go_wp2_with (go_at_call 107; refine (C1.out _).mono ?_; rintro e w' ⟨rfl, rfl⟩)
      all_goals go_ret
      all_goals exact ⟨ret_int HL.out.symm, rfl⟩

end Go.Proofs.YtncdiggejofbbaaDoor.Bo
