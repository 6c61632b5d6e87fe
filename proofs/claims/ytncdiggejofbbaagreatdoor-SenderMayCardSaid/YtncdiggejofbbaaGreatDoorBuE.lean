/- Contracts of package budget, and of the document's own answers for it: what is left, and whether it is enough. Contracts of package backoff, and of the document's own answers for it: what each function returns, and that it leaves memory as it was. Contracts of package throttle, and of the document's own answers for it: what each function returns, and that it leaves memory as it was. -/
import Derived.Test.YtncdiggejofbbaaGreatDoorTk
import Derived.Test.YtncdiggejofbbaaGreatDoorSt
import Derived.Lib.MinMax
import Derived.LoopTactic
import Derived.Laws.Closers25b
namespace Go.Proofs.YtncdiggejofbbaaGreatDoor.Bu
open Go.RowKit St Go.Sort

def enough (a b c : Int) : Bool := decide (0 < Tk.sub a b ∧ Tk.clamp c ≤ Tk.sub a b)

set_option maxHeartbeats 400000 in
theorem left_any (a b : Int) (w : World) :
    Calls Tryz.prog 38 #[.int .i64 a, .int .i64 b] w fun e w' => e = .returned (.int .i64 (Tk.sub a b)) ∧ w = w' := by
  go_enter Tryz.func38, Tryz.ntmps38
  go_wp2_with (go_at_call 57; refine (Tk.sub_any _ _ _).mono ?_; rintro e w' ⟨rfl, rfl⟩)
  go_ret
  exact ⟨rfl, rfl⟩

/-- what 'enough' is, by the difference and the least under names -/
theorem enough_of {a b c x y : Int} (hx : Tk.sub a b = x) (hy : Tk.clamp c = y) : enough a b c = decide (0 < x ∧ y ≤ x) := by unfold enough; rw [hx, hy]

set_option maxHeartbeats 400000 in
theorem enough_any (a b c : Int) (w : World) :
    Calls Tryz.prog 23 #[.int .i64 a, .int .i64 b, .int .i64 c] w fun e w' => e = .returned (.bool (enough a b c)) ∧ w = w' := by
  obtain ⟨x, hx⟩ : ∃ x, Tk.sub a b = x := ⟨_, rfl⟩
  obtain ⟨y, hy⟩ : ∃ y, Tk.clamp c = y := ⟨_, rfl⟩
  have HE := Lib.hid (enough_of hx hy)
  have C1 := Lib.hid (fun w => hx ▸ left_any a b w)
  have C2 := Lib.hid (fun w => hy ▸ Tk.clamp_any c w)
  clear hx hy
  by_cases h1 : 0 < x
  · by_cases h2 : y ≤ x
    · go_enter Tryz.func23, Tryz.ntmps23
      go_wp2_with (first | (go_at_call 38; refine (C1.out _).mono ?_; rintro e w' ⟨rfl, rfl⟩) | (go_at_call 29; refine (C2.out _).mono ?_; rintro e w' ⟨rfl, rfl⟩))
      go_ret
      exact ⟨ret_bool (by rw [HE.out]; simp [h1, h2]), rfl⟩
    · go_enter Tryz.func23, Tryz.ntmps23
      go_wp2_with (first | (go_at_call 38; refine (C1.out _).mono ?_; rintro e w' ⟨rfl, rfl⟩) | (go_at_call 29; refine (C2.out _).mono ?_; rintro e w' ⟨rfl, rfl⟩))
      go_ret
      exact ⟨ret_bool (by rw [HE.out]; simp [h1]), rfl⟩
  · go_enter Tryz.func23, Tryz.ntmps23
    go_wp2_with (first | (go_at_call 38; refine (C1.out _).mono ?_; rintro e w' ⟨rfl, rfl⟩) | (go_at_call 29; refine (C2.out _).mono ?_; rintro e w' ⟨rfl, rfl⟩))
    go_ret
    exact ⟨ret_bool (by rw [HE.out]; simp; omega), rfl⟩


end Go.Proofs.YtncdiggejofbbaaGreatDoor.Bu

namespace Go.Proofs.YtncdiggejofbbaaGreatDoor.Bo
open Go.RowKit St Go.Sort
set_option linter.unusedVariables false

/-- a span, doubled so many times -/
def dbl (b : Int) : Nat → Int
  | 0 => Tk.clamp b
  | k + 1 => Tk.add (dbl b k) (dbl b k)
/-- how many times it is doubled -/
def times (a : Int) : Nat := (min (max 1 a - 1) 64).toNat
/-- the wait without jitter -/
def step (b m a : Int) : Int := min (dbl b (times a)) (Tk.clamp m)
/-- a jitter, held to its whole -/
def jc (j : Int) : Int := max 0 (min j 1000)
/-- a wait with jitter -/
def late (x j : Int) : Int := x - x / 2 * jc j / 1000
/-- three numbers' lower 32 bits, put together -/
def mix (n s a : Int) : Int := bits .xor .u32 (bits .xor .u32 (n % 4294967296 * 2654435761 % 4294967296) (s % 4294967296 * 40503 % 4294967296)) (a % 4294967296 * 2246822519 % 4294967296)
/-- the jitter of an attempt -/
def jit (n s a : Int) : Int := wrap64 ((bits .xor .u32 (mix n s a) (mix n s a / 32768)).tmod 1001)

theorem dbl_lo (b : Int) : ∀ k, 0 ≤ dbl b k
  | 0 => Tk.clamp_lo _
  | k + 1 => Tk.add_lo _ _
theorem dbl_hi (b : Int) : ∀ k, dbl b k ≤ 1125899906842624
  | 0 => Tk.clamp_hi _
  | k + 1 => Tk.add_hi _ _
theorem dbl_up (b : Int) (k : Nat) : dbl b k ≤ dbl b (k + 1) := by
  have h := Tk.add_ge (dbl b k) (dbl b k)
  rw [Tk.clamp_id _ (dbl_lo b k) (dbl_hi b k)] at h
  exact h
theorem dbl_mono (b : Int) {k : Nat} : ∀ {n : Nat}, k ≤ n → dbl b k ≤ dbl b n
  | 0, h => by obtain rfl : k = 0 := by omega
               exact Int.le_refl _
  | n + 1, h => by
    rcases Nat.lt_or_ge k (n + 1) with h1 | h1
    · exact Int.le_trans (dbl_mono b (by omega)) (dbl_up b n)
    · obtain rfl : k = n + 1 := by omega
      exact Int.le_refl _
theorem times_int (a : Int) : ((times a : Nat) : Int) = min (max 1 a - 1) 64 := by unfold times; omega
theorem times_mono {a b : Int} (h : a ≤ b) : times a ≤ times b := by unfold times; omega
theorem step_lo (b m a : Int) : 0 ≤ step b m a := by have := dbl_lo b (times a); have := Tk.clamp_lo m; unfold step; omega
theorem step_hi (b m a : Int) : step b m a ≤ 1125899906842624 := by have := dbl_hi b (times a); unfold step; omega
theorem step_mono (b m : Int) {a c : Int} (h : a ≤ c) : step b m a ≤ step b m c := by have := dbl_mono b (times_mono h); unfold step; omega
theorem jc_lo (j : Int) : 0 ≤ jc j := by unfold jc; omega
theorem jc_hi (j : Int) : jc j ≤ 1000 := by unfold jc; omega
theorem jc_mono {j k : Int} (h : j ≤ k) : jc j ≤ jc k := by unfold jc; omega
theorem prod_lo {x : Int} (j : Int) (h : 0 ≤ x) : 0 ≤ x / 2 * jc j := Int.mul_nonneg (by omega) (jc_lo j)
theorem prod_hi {x : Int} (j : Int) (h : 0 ≤ x) : x / 2 * jc j ≤ x / 2 * 1000 := Int.mul_le_mul_of_nonneg_left (jc_hi j) (by omega)
theorem late_lo {x : Int} (j : Int) (h : 0 ≤ x) : x - x / 2 ≤ late x j := by have := prod_hi j h; unfold late; omega
theorem late_hi {x : Int} (j : Int) (h : 0 ≤ x) : late x j ≤ x := by have := prod_lo j h; unfold late; omega
theorem late_none (x : Int) : late x 0 = x := by unfold late; rw [show jc 0 = 0 from rfl]; simp
theorem late_all (x : Int) : late x 1000 = x - x / 2 := by unfold late; rw [show jc 1000 = 1000 from rfl]; omega
theorem late_mono {x j k : Int} (h : 0 ≤ x) (hj : j ≤ k) : late x k ≤ late x j := by
  have := Int.mul_le_mul_of_nonneg_left (jc_mono hj) (show 0 ≤ x / 2 by omega)
  unfold late; omega
theorem quo_mix (n s a : Int) : (mix n s a).tdiv 32768 % 4294967296 = mix n s a / 32768 := by
  have h : 0 ≤ mix n s a := bits_lo_u32 _ _ _
  have h2 : mix n s a ≤ 4294967295 := bits_hi_u32 _ _ _
  rw [Int.tdiv_eq_ediv_of_nonneg h]; omega
theorem jit_lo (n s a : Int) : 0 ≤ jit n s a := by
  have h := bits_lo_u32 .xor (mix n s a) (mix n s a / 32768)
  have h2 := Int.emod_nonneg (bits .xor .u32 (mix n s a) (mix n s a / 32768)) (show (1001 : Int) ≠ 0 by omega)
  have h3 := Int.emod_lt_of_pos (bits .xor .u32 (mix n s a) (mix n s a / 32768)) (show (0 : Int) < 1001 by omega)
  unfold jit
  rw [Int.tmod_eq_emod_of_nonneg h]
  unfold wrap64; omega
theorem jit_hi (n s a : Int) : jit n s a ≤ 1000 := by
  have h := bits_lo_u32 .xor (mix n s a) (mix n s a / 32768)
  have h2 := Int.emod_nonneg (bits .xor .u32 (mix n s a) (mix n s a / 32768)) (show (1001 : Int) ≠ 0 by omega)
  have h3 := Int.emod_lt_of_pos (bits .xor .u32 (mix n s a) (mix n s a / 32768)) (show (0 : Int) < 1001 by omega)
  unfold jit
  rw [Int.tmod_eq_emod_of_nonneg h]
  unfold wrap64; omega







end Go.Proofs.YtncdiggejofbbaaGreatDoor.Bo

namespace Go.Proofs.YtncdiggejofbbaaGreatDoor.Th
open Go.RowKit St Go.Sort
set_option linter.unusedVariables false

/-- so many tokens -/
def tk (t : Int) : Int := max 1 (min t 1000)
/-- as much as there may be -/
def full (t : Int) : Int := tk t * 1000
/-- the nearest that there may be -/
def held (h t : Int) : Int := max 0 (min h (full t))
def bad (h t : Int) : Int := max 0 (held h t - 1000)
def good (h t : Int) : Int := min (held h t + 100) (full t)
def may (h t : Int) : Bool := decide (full t < 2 * held h t)
/-- behind so many failures and successes -/
def plays (t : Int) (F : Nat → Bool) : Nat → Int
  | 0 => full t
  | k + 1 => if F k then good (plays t F k) t else bad (plays t F k) t

theorem tk_lo (t : Int) : 1 ≤ tk t := by unfold tk; omega
theorem tk_hi (t : Int) : tk t ≤ 1000 := by unfold tk; omega
theorem full_lo (t : Int) : 1000 ≤ full t := by have := tk_lo t; unfold full; omega
theorem full_hi (t : Int) : full t ≤ 1000000 := by have := tk_hi t; unfold full; omega
theorem held_lo (h t : Int) : 0 ≤ held h t := by unfold held; omega
theorem held_hi (h t : Int) : held h t ≤ full t := by have := full_lo t; unfold held; omega
theorem held_id {h t : Int} (h0 : 0 ≤ h) (h1 : h ≤ full t) : held h t = h := by unfold held; omega
theorem bad_lo (h t : Int) : 0 ≤ bad h t := by unfold bad; omega
theorem bad_hi (h t : Int) : bad h t ≤ full t := by have := held_hi h t; have := full_lo t; unfold bad; omega
theorem good_lo (h t : Int) : 0 ≤ good h t := by have := held_lo h t; have := full_lo t; unfold good; omega
theorem good_hi (h t : Int) : good h t ≤ full t := by unfold good; omega
theorem plays_lo (t : Int) (F : Nat → Bool) : ∀ k, 0 ≤ plays t F k
  | 0 => by have := full_lo t; show 0 ≤ full t; omega
  | k + 1 => by unfold plays; split; exact good_lo _ _; exact bad_lo _ _
theorem plays_hi (t : Int) (F : Nat → Bool) : ∀ k, plays t F k ≤ full t
  | 0 => Int.le_refl _
  | k + 1 => by unfold plays; split; exact good_hi _ _; exact bad_hi _ _











end Go.Proofs.YtncdiggejofbbaaGreatDoor.Th
