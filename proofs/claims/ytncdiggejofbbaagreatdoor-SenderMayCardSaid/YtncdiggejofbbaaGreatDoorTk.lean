/- Plain mathematics of times and spans: no Go text is spoken of here. Contracts of package ticks, and of the document's own answers for it: what each function returns, and that it leaves memory as it was. Contracts of package ticks, and of the document's own answers for it: products, multiples of a grain, and what is past. Contracts of package ticks, and of the document's own answers for it: the product by doubling, and the chapter's examples. -/
import Derived.Test.YtncdiggejofbbaaGreatDoorChecked
import Derived.WalkKit
import Derived.Lib.Hide
import Derived.LoopTactic
namespace Go.Proofs.YtncdiggejofbbaaGreatDoor.Tk

/-- the greatest time -/
def most : Int := 1125899906842624

def clamp (n : Int) : Int := max 0 (min n most)
def add (a b : Int) : Int := min (clamp a + clamp b) most
def sub (a b : Int) : Int := max 0 (clamp a - clamp b)
def mul (a n : Int) : Int := min (clamp a * clamp n) most
def grain (g : Int) : Int := max 1 (clamp g)
def upTo (t g : Int) : Int := (clamp t + grain g - 1) / grain g * grain g
def up (t g : Int) : Int := min (upTo t g) most
def past (now t g : Int) : Bool := decide (up t g ≤ clamp now)

theorem clamp_lo (n : Int) : 0 ≤ clamp n := by unfold clamp most; omega
theorem clamp_hi (n : Int) : clamp n ≤ 1125899906842624 := by unfold clamp most; omega
theorem clamp_neg (n : Int) (h : n < 0) : clamp n = 0 := by unfold clamp most; omega
theorem clamp_big (n : Int) (h : 1125899906842624 ≤ n) : clamp n = 1125899906842624 := by unfold clamp most; omega
theorem clamp_id (n : Int) (h : 0 ≤ n) (h2 : n ≤ 1125899906842624) : clamp n = n := by unfold clamp most; omega
theorem clamp_clamp (n : Int) : clamp (clamp n) = clamp n := clamp_id _ (clamp_lo n) (clamp_hi n)
theorem clamp_mono {a b : Int} (h : a ≤ b) : clamp a ≤ clamp b := by unfold clamp most; omega
theorem grain_lo (g : Int) : 1 ≤ grain g := by unfold grain; omega
theorem grain_hi (g : Int) : grain g ≤ 1125899906842624 := by have := clamp_hi g; unfold grain; omega

theorem add_lo (a b : Int) : 0 ≤ add a b := by have := clamp_lo a; have := clamp_lo b; unfold add most; omega
theorem add_hi (a b : Int) : add a b ≤ 1125899906842624 := by unfold add most; omega
theorem add_eq (a b : Int) : add a b = min (clamp a + clamp b) 1125899906842624 := rfl
theorem sub_lo (a b : Int) : 0 ≤ sub a b := by unfold sub; omega
theorem sub_hi (a b : Int) : sub a b ≤ 1125899906842624 := by have := clamp_hi a; have := clamp_lo b; unfold sub; omega
theorem sub_eq (a b : Int) : sub a b = max 0 (clamp a - clamp b) := rfl

/-! products -/
theorem mul_over {a n : Int} (ha : 0 < a) : 1125899906842624 / a < n ↔ 1125899906842624 < a * n := by
  rw [Int.ediv_lt_iff_lt_mul ha, Int.mul_comm]
theorem mul_eq (a n : Int) : mul a n = min (clamp a * clamp n) 1125899906842624 := rfl
theorem mul_lo (a n : Int) : 0 ≤ mul a n := by
  have := Int.mul_nonneg (clamp_lo a) (clamp_lo n); unfold mul most; omega
theorem mul_hi (a n : Int) : mul a n ≤ 1125899906842624 := by unfold mul most; omega

/-! multiples of a grain -/
theorem upTo_ge (t g : Int) : clamp t ≤ upTo t g := by
  have hg := grain_lo g
  have h := Int.emod_add_mul_ediv (clamp t + grain g - 1) (grain g)
  have h2 := Int.emod_lt_of_pos (clamp t + grain g - 1) (show 0 < grain g by omega)
  unfold upTo; rw [Int.mul_comm]; omega
theorem upTo_lt (t g : Int) : upTo t g < clamp t + grain g := by
  have hg := grain_lo g
  have h := Int.emod_add_mul_ediv (clamp t + grain g - 1) (grain g)
  have h2 := Int.emod_nonneg (clamp t + grain g - 1) (show grain g ≠ 0 by omega)
  unfold upTo; rw [Int.mul_comm]; omega
theorem up_lo (t g : Int) : clamp t ≤ up t g := by have := upTo_ge t g; have := clamp_hi t; unfold up most; omega
theorem up_hi (t g : Int) : up t g ≤ 1125899906842624 := by unfold up most; omega
theorem up_lt (t g : Int) : up t g < clamp t + grain g := by have := upTo_lt t g; unfold up; omega
theorem up_eq (t g : Int) : up t g = min (upTo t g) 1125899906842624 := rfl
theorem upTo_mod (t g : Int) : upTo t g % grain g = 0 := by unfold upTo; exact Int.mul_emod_left _ _
/-- the least multiple: what stands at a multiple that is not below t is not below 'upTo' -/
theorem upTo_least (t g k : Int) (h : clamp t ≤ k * grain g) : upTo t g ≤ k * grain g := by
  have hg := grain_lo g
  unfold upTo
  apply Int.mul_le_mul_of_nonneg_right _ (by omega)
  have h1 : (clamp t + grain g - 1) / grain g < k + 1 := by
    rw [Int.ediv_lt_iff_lt_mul (by omega), Int.add_mul]; omega
  omega
theorem upTo_mono {t s : Int} (g : Int) (h : clamp t ≤ clamp s) : upTo t g ≤ upTo s g := by
  have h2 := upTo_ge s g
  unfold upTo at h2 ⊢
  exact upTo_least t g _ (by omega)
theorem up_mono {t s : Int} (g : Int) (h : t ≤ s) : up t g ≤ up s g := by
  have := upTo_mono g (clamp_mono h); unfold up; omega
/-- by the rest: what the definition by '%' says -/
theorem upTo_rest (t g : Int) : upTo t g = if clamp t % grain g = 0 then clamp t else clamp t - clamp t % grain g + grain g := by
  have hg := grain_lo g
  have h := Int.emod_add_mul_ediv (clamp t) (grain g)
  have h2 := Int.emod_lt_of_pos (clamp t) (show 0 < grain g by omega)
  have h3 := Int.emod_nonneg (clamp t) (show grain g ≠ 0 by omega)
  have hge := upTo_ge t g
  have hlt := upTo_lt t g
  split
  · rename_i h0
    have := upTo_least t g (clamp t / grain g) (by rw [Int.mul_comm]; omega)
    rw [Int.mul_comm] at this; omega
  · rename_i h0
    have e : (clamp t / grain g + 1) * grain g = clamp t - clamp t % grain g + grain g := by
      rw [Int.add_mul, Int.mul_comm]; omega
    have h5 := upTo_least t g (clamp t / grain g + 1) (by rw [e]; omega)
    rw [e] at h5
    apply Int.le_antisymm h5
    -- upTo is a multiple above clamp t / grain * grain
    have h6 : clamp t / grain g < (clamp t + grain g - 1) / grain g := by
      apply Int.lt_of_not_ge; intro hc
      have h7 : (clamp t + grain g - 1) / grain g * grain g ≤ clamp t / grain g * grain g := Int.mul_le_mul_of_nonneg_right hc (by omega)
      have h8 : clamp t ≤ (clamp t + grain g - 1) / grain g * grain g := hge
      rw [Int.mul_comm (clamp t / grain g)] at h7; omega
    have h9 : (clamp t / grain g + 1) * grain g ≤ (clamp t + grain g - 1) / grain g * grain g := Int.mul_le_mul_of_nonneg_right (by omega) (by omega)
    rw [e] at h9; exact h9

theorem mod_le {a b : Int} (ha : 0 ≤ a) (hb : 0 < b) : a % b ≤ a := by
  have h := Int.emod_add_mul_ediv a b
  have h2 := Int.mul_nonneg (show 0 ≤ b by omega) (Int.ediv_nonneg ha (show 0 ≤ b by omega))
  omega
theorem grain_of {g : Int} (h : 1 ≤ clamp g) : grain g = clamp g := by unfold grain; omega
theorem grain_one {g : Int} (h : clamp g ≤ 1) : grain g = 1 := by unfold grain; omega
theorem upTo_of {g : Int} (t : Int) (h : 1 ≤ clamp g) : upTo t g = (clamp t + clamp g - 1) / clamp g * clamp g := by unfold upTo; rw [grain_of h]
theorem upTo_one {g : Int} (t : Int) (h : clamp g ≤ 1) : upTo t g = clamp t := by unfold upTo; rw [grain_one h]; simp

/-! the product that is doubled and added -/
/-- a step of it: the rest of the number is halved -/
theorem dbl_even {a n : Int} (ha : 0 ≤ a) (hn : 0 ≤ n) (h : n % 2 = 0) (out : Int) (ho : 0 ≤ out) :
    min (out + min (a + a) most * (n / 2)) most = min (out + a * n) most := by
  unfold most
  have e : n = 2 * (n / 2) := by omega
  have e2 : a * n = (a + a) * (n / 2) := by
    conv => lhs; rw [e]
    rw [← Int.mul_assoc, Int.mul_comm a 2, Int.two_mul]
  rw [e2]
  rcases Int.lt_or_le 1125899906842624 (a + a) with h1 | h1
  · rw [show min (a + a) (1125899906842624 : Int) = 1125899906842624 by omega]
    rcases Int.lt_or_le 0 (n / 2) with h2 | h2
    · have h3 : 1125899906842624 * 1 ≤ 1125899906842624 * (n / 2) := Int.mul_le_mul_of_nonneg_left (by omega) (by omega)
      have h4 : (a + a) * 1 ≤ (a + a) * (n / 2) := Int.mul_le_mul_of_nonneg_left (by omega) (by omega)
      omega
    · have : n / 2 = 0 := by omega
      rw [this]; simp
  · rw [show min (a + a) (1125899906842624 : Int) = a + a by omega]
theorem dbl_odd {a n : Int} (ha : 0 ≤ a) (hn : 0 ≤ n) (h : n % 2 = 1) (out : Int) (ho : 0 ≤ out) :
    min (min (out + a) most + min (a + a) most * (n / 2)) most = min (out + a * n) most := by
  have h1 := dbl_even (a := a) (n := n - 1) ha (by omega) (by omega) (out + a) (by omega)
  have e : (n - 1) / 2 = n / 2 := by omega
  have e2 : out + a + a * (n - 1) = out + a * n := by rw [Int.mul_sub]; omega
  rw [e, e2] at h1
  rw [← h1]
  have h3 : 0 ≤ min (a + a) most * (n / 2) := Int.mul_nonneg (by unfold most; omega) (by omega)
  omega

/-! what the laws say -/
theorem add_comm (a b : Int) : add a b = add b a := by unfold add; rw [Int.add_comm]
theorem add_assoc (a b c : Int) : add (add a b) c = add a (add b c) := by
  have h1 := add_lo a b; have h2 := add_hi a b; have h3 := add_lo b c; have h4 := add_hi b c
  have e1 : add (add a b) c = min (add a b + clamp c) most := by
    conv => lhs; unfold add
    rw [show clamp (min (clamp a + clamp b) most) = add a b from clamp_id (add a b) h1 h2]
  have e2 : add a (add b c) = min (clamp a + add b c) most := by
    conv => lhs; unfold add
    rw [show clamp (min (clamp b + clamp c) most) = add b c from clamp_id (add b c) h3 h4]
  rw [e1, e2]
  have := clamp_lo a; have := clamp_lo c
  unfold add most; omega
theorem add_ge (a b : Int) : clamp a ≤ add a b := by have := clamp_hi a; have := clamp_lo b; unfold add most; omega
theorem sub_add (a b : Int) (h : add a b ≠ 1125899906842624) : sub (add a b) b = clamp a := by
  unfold sub
  rw [clamp_id (add a b) (add_lo a b) (add_hi a b)]
  have := clamp_lo a; have := clamp_lo b
  unfold add most at *; omega
theorem add_mono {a b : Int} (c : Int) (h : a ≤ b) : add a c ≤ add b c := by have := clamp_mono h; unfold add; omega
theorem sub_mono {a b : Int} (c : Int) (h : a ≤ b) : sub a c ≤ sub b c := by have := clamp_mono h; unfold sub; omega
theorem sub_anti {a b : Int} (c : Int) (h : a ≤ b) : sub c b ≤ sub c a := by have := clamp_mono h; unfold sub; omega
theorem mul_mono {a b : Int} (c : Int) (h : a ≤ b) : mul a c ≤ mul b c := by
  have := Int.mul_le_mul_of_nonneg_right (clamp_mono h) (clamp_lo c); unfold mul; omega
theorem past_mono {now later : Int} (t g : Int) (h : now ≤ later) (hp : past now t g = true) : past later t g = true := by
  have := clamp_mono h
  unfold past at *
  simp only [decide_eq_true_eq] at *; omega
theorem up_up (t g : Int) (h : up t g ≠ 1125899906842624) : up (up t g) g = up t g := by
  have h0 := clamp_lo t; have h1 := up_lo t g; have h2 := up_hi t g
  have e := clamp_id (up t g) (by omega) h2
  have e2 : up t g = upTo t g := by unfold up most at *; omega
  have e3 : upTo (up t g) g = up t g := by
    apply Int.le_antisymm
    · have h4 : clamp (up t g) ≤ (clamp t + grain g - 1) / grain g * grain g := by rw [e, e2]; exact Int.le_refl _
      have h5 := upTo_least (up t g) g _ h4
      rw [e2] at h5 ⊢; exact h5
    · have := upTo_ge (up t g) g; rw [e] at this; exact this
  unfold up at e3 ⊢
  rw [e3]; omega
theorem up_mod (t g : Int) (h : up t g ≠ 1125899906842624) : up t g % grain g = 0 := by
  have e2 : up t g = upTo t g := by unfold up most at *; omega
  rw [e2]; exact upTo_mod t g
theorem up_again (t g : Int) : up (up t g) g = up t g := by
  by_cases h : up t g = 1125899906842624
  · have h1 := up_lo (up t g) g; have h2 := up_hi (up t g) g
    rw [clamp_id (up t g) (by omega) (by omega)] at h1
    omega
  · exact up_up t g h

end Go.Proofs.YtncdiggejofbbaaGreatDoor.Tk

namespace Go.Proofs.YtncdiggejofbbaaGreatDoor.Tk
open Go.RowKit

theorem ret_int {k : IntKind} {a b : Int} (h : a = b) : Ending.returned (.int k a) = .returned (.int k b) := by rw [h]
theorem ret_bool {a b : Bool} (h : a = b) : Ending.returned (.bool a) = .returned (.bool b) := by rw [h]

set_option maxHeartbeats 400000 in
theorem clamp_any (n : Int) (w : World) :
    Calls Tryz.prog 29 #[.int .i64 n] w fun e w' => e = .returned (.int .i64 (clamp n)) ∧ w = w' := by
  go_enter Tryz.func29, Tryz.ntmps29
  go_wp2
  all_goals go_ret
  all_goals exact ⟨ret_int (by unfold clamp most; omega), rfl⟩


set_option maxHeartbeats 400000 in
theorem sub_any (a : Int) (b : Int) (w : World) :
    Calls Tryz.prog 57 #[.int .i64 a, .int .i64 b] w fun e w' => e = .returned (.int .i64 (sub a b)) ∧ w = w' := by
  have ha := clamp_lo a
  have ha2 := clamp_hi a
  have hb := clamp_lo b
  have hb2 := clamp_hi b
  go_enter Tryz.func57, Tryz.ntmps57
  go_wp2_with (go_at_call 29; refine (clamp_any _ _).mono ?_; rintro e w' ⟨rfl, rfl⟩)
  all_goals go_ret
  all_goals exact ⟨ret_int (by unfold sub; omega), rfl⟩




end Go.Proofs.YtncdiggejofbbaaGreatDoor.Tk

namespace Go.Proofs.YtncdiggejofbbaaGreatDoor.Tk
open Go.RowKit

set_option maxHeartbeats 400000 in
theorem mul_any (a : Int) (b : Int) (w : World) :
    Calls Tryz.prog 96 #[.int .i64 a, .int .i64 b] w fun e w' => e = .returned (.int .i64 (mul a b)) ∧ w = w' := by
  have ha := clamp_lo a
  have ha2 := clamp_hi a
  have hb := clamp_lo b
  have hb2 := clamp_hi b
  have hp := Int.mul_nonneg ha hb
  rcases Int.lt_or_le 0 (clamp a) with h | h
  · rcases Int.lt_or_le 1125899906842624 (clamp a * clamp b) with h2 | h2
    · have h3 := (mul_over (n := clamp b) h).2 h2
      go_enter Tryz.func96, Tryz.ntmps96
      go_wp2_with (go_at_call 29; refine (clamp_any _ _).mono ?_; rintro e w' ⟨rfl, rfl⟩)
      all_goals go_ret
      all_goals exact ⟨ret_int (by unfold mul most; omega), rfl⟩
    · have h3 : clamp b ≤ 1125899906842624 / clamp a := Int.not_lt.1 fun hc => absurd ((mul_over h).1 hc) (by omega)
      go_enter Tryz.func96, Tryz.ntmps96
      go_wp2_with (go_at_call 29; refine (clamp_any _ _).mono ?_; rintro e w' ⟨rfl, rfl⟩)
      all_goals go_ret
      all_goals exact ⟨ret_int (by unfold mul most; omega), rfl⟩
  · have h0 : clamp a = 0 := by omega
    have h4 : clamp a * clamp b ≤ 0 := by rw [h0]; simp
    clear h0
    go_enter Tryz.func96, Tryz.ntmps96
    go_wp2_with (go_at_call 29; refine (clamp_any _ _).mono ?_; rintro e w' ⟨rfl, rfl⟩)
    all_goals go_ret
    all_goals exact ⟨ret_int (by unfold mul most; omega), rfl⟩





end Go.Proofs.YtncdiggejofbbaaGreatDoor.Tk

namespace Go.Proofs.YtncdiggejofbbaaGreatDoor.Tk
open Go.RowKit

theorem add_id {a b : Int} (ha : 0 ≤ a) (ha2 : a ≤ 1125899906842624) (hb : 0 ≤ b) (hb2 : b ≤ 1125899906842624) : add a b = min (a + b) most := by
  unfold add; rw [clamp_id a ha ha2, clamp_id b hb hb2]



end Go.Proofs.YtncdiggejofbbaaGreatDoor.Tk
