/- Plain mathematics of slots: no Go text is spoken of here. -/
import Derived.Test.YtckmkagijanbdaaTkMath
namespace Go.Proofs.Ytckmkagijanbdaa.Sl
open Tk

/-- how many ticks a slot of a level has -/
def sz (l : Int) : Int := if l = 0 then 1 else if l = 1 then 64 else if l = 2 then 4096 else if l = 3 then 262144 else 16777216
/-- the first time of the turn of a level in which a time is -/
def low (t l : Int) : Int := t - t % sz (l + 1)
def part (t l : Int) : Int := if 0 ≤ l ∧ l < 4 then clamp t / sz l % 64 else 0
def lev (n x : Int) : Int := if low n 0 = low x 0 then 0 else if low n 1 = low x 1 then 1 else if low n 2 = low x 2 then 2 else if low n 3 = low x 3 then 3 else 4
def placeL (now t : Int) : Int := if clamp t ≤ clamp now then 0 else lev (clamp now) (clamp t)
def placeS (now t : Int) : Int := if clamp t ≤ clamp now then clamp now % 64 else part (clamp t) (lev (clamp now) (clamp t))
def start (now l s : Int) : Int := if (0 ≤ l ∧ l < 4) ∧ 0 ≤ s ∧ s < 64 then low (clamp now) l + s * sz l else clamp now
def turnAll (t : Int) : Int := low (clamp t) 3

theorem low_0 (t : Int) : low t 0 = t - t % 64 := rfl
theorem low_1 (t : Int) : low t 1 = t - t % 4096 := rfl
theorem low_2 (t : Int) : low t 2 = t - t % 262144 := rfl
theorem low_3 (t : Int) : low t 3 = t - t % 16777216 := rfl
theorem lev_lo (n x : Int) : 0 ≤ lev n x := by unfold lev; repeat (first | split | omega)
theorem lev_hi (n x : Int) : lev n x ≤ 4 := by unfold lev; repeat (first | split | omega)
theorem low_le (t l : Int) (h : 0 ≤ t) : low t l ≤ t ∧ 0 ≤ low t l := by
  unfold low sz; repeat (first | split | omega)

/-- the cases of a level: which times are of one turn -/
theorem lev_0 {n x : Int} (h : lev n x = 0) : n - n % 64 = x - x % 64 := by
  unfold lev at h; rw [low_0, low_0] at h; (repeat (split at h)) <;> first | assumption | omega
theorem lev_1 {n x : Int} (h : lev n x = 1) : n - n % 64 ≠ x - x % 64 ∧ n - n % 4096 = x - x % 4096 := by
  unfold lev at h; rw [low_0, low_0, low_1, low_1] at h; (repeat (split at h)) <;> first | exact ⟨by assumption, by assumption⟩ | omega
theorem lev_2 {n x : Int} (h : lev n x = 2) : n - n % 4096 ≠ x - x % 4096 ∧ n - n % 262144 = x - x % 262144 := by
  unfold lev at h; rw [low_1, low_1, low_2, low_2] at h; (repeat (split at h)) <;> first | exact ⟨by assumption, by assumption⟩ | omega
theorem lev_3 {n x : Int} (h : lev n x = 3) : n - n % 262144 ≠ x - x % 262144 ∧ n - n % 16777216 = x - x % 16777216 := by
  unfold lev at h; rw [low_2, low_2, low_3, low_3] at h; (repeat (split at h)) <;> first | exact ⟨by assumption, by assumption⟩ | omega
theorem lev_4 {n x : Int} (h : lev n x = 4) : n - n % 16777216 ≠ x - x % 16777216 := by
  unfold lev at h; rw [low_3, low_3] at h; (repeat (split at h)) <;> first | assumption | omega
theorem lev_cases (n x : Int) : lev n x = 0 ∨ lev n x = 1 ∨ lev n x = 2 ∨ lev n x = 3 ∨ lev n x = 4 := by
  have := lev_lo n x; have := lev_hi n x; omega

theorem part_lo (t l : Int) : 0 ≤ part t l := by unfold part; split <;> omega
theorem part_hi (t l : Int) : part t l < 64 := by unfold part; split <;> omega

/-- the slot's first time, from what 'lev' and 'part' tell -/
theorem start_of {n x : Int} (hn : 0 ≤ n) (hx : n < x) (hm : x ≤ 1125899906842624) (h4 : lev n x ≠ 4) :
    start n (lev n x) (part x (lev n x)) = x - x % sz (lev n x) := by
  have hcn := clamp_id n hn (by omega)
  have hcx := clamp_id x (by omega) hm
  have hp0 := part_lo x (lev n x)
  have hp1 := part_hi x (lev n x)
  have hl0 := lev_lo n x
  have hl1 := lev_hi n x
  unfold start
  rw [if_pos ⟨⟨hl0, by omega⟩, hp0, hp1⟩, hcn]
  unfold part
  rw [if_pos ⟨hl0, by omega⟩, hcx]
  rcases lev_cases n x with h | h | h | h | h
  · have h2 := lev_0 h; rw [h]; rw [low_0]; show _ + x / 1 % 64 * 1 = x - x % 1; omega
  · have h2 := lev_1 h; rw [h]; rw [low_1]; show _ + x / 64 % 64 * 64 = x - x % 64; omega
  · have h2 := lev_2 h; rw [h]; rw [low_2]; show _ + x / 4096 % 64 * 4096 = x - x % 4096; omega
  · have h2 := lev_3 h; rw [h]; rw [low_3]; show _ + x / 262144 % 64 * 262144 = x - x % 262144; omega
  · exact absurd h h4

/-- the time at which what is to come falls, or is due -/
def fall (n x : Int) : Int := if lev n x = 4 then low x 3 else x - x % sz (lev n x)

theorem fall_gt {n x : Int} (hx : n < x) : n < fall n x := by
  unfold fall
  rcases lev_cases n x with h | h | h | h | h
  · rw [h, if_neg (by omega)]; show n < x - x % 1; omega
  · have h2 := lev_1 h; rw [h, if_neg (by omega)]; show n < x - x % 64; omega
  · have h2 := lev_2 h; rw [h, if_neg (by omega)]; show n < x - x % 4096; omega
  · have h2 := lev_3 h; rw [h, if_neg (by omega)]; show n < x - x % 262144; omega
  · have h2 := lev_4 h; rw [h, if_pos rfl, low_3]; omega
theorem fall_le {n x : Int} : fall n x ≤ x := by
  unfold fall
  rcases lev_cases n x with h | h | h | h | h <;> rw [h]
  · rw [if_neg (by omega)]; show x - x % 1 ≤ x; omega
  · rw [if_neg (by omega)]; show x - x % 64 ≤ x; omega
  · rw [if_neg (by omega)]; show x - x % 4096 ≤ x; omega
  · rw [if_neg (by omega)]; show x - x % 262144 ≤ x; omega
  · rw [if_pos rfl, low_3]; omega
theorem fall_in {n x : Int} (h4 : lev n x ≠ 4) : x - fall n x < sz (lev n x) := by
  unfold fall
  rw [if_neg h4]
  rcases lev_cases n x with h | h | h | h | h
  · rw [h]; show x - (x - x % 1) < 1; omega
  · rw [h]; show x - (x - x % 64) < 64; omega
  · rw [h]; show x - (x - x % 4096) < 4096; omega
  · rw [h]; show x - (x - x % 262144) < 262144; omega
  · exact absurd h h4
/-- when its slot begins, a time is found at a lower level, or is now -/
theorem fall_lower {n x : Int} (h : fall n x ≠ x) : lev (fall n x) x < lev n x := by
  unfold fall at *
  rcases lev_cases n x with e | e | e | e | e <;> rw [e] at h ⊢
  · rw [if_neg (by omega)] at h; exfalso; apply h; show x - x % 1 = x; omega
  · rw [if_neg (by omega)]; show lev (x - x % 64) x < 1
    unfold lev; rw [low_0, low_0, if_pos (by omega)]; omega
  · rw [if_neg (by omega)]; show lev (x - x % 4096) x < 2
    unfold lev; rw [low_1, low_1, if_pos (show x - x % 4096 - (x - x % 4096) % 4096 = x - x % 4096 by omega)]; split <;> omega
  · rw [if_neg (by omega)]; show lev (x - x % 262144) x < 3
    unfold lev; rw [low_2, low_2, if_pos (show x - x % 262144 - (x - x % 262144) % 262144 = x - x % 262144 by omega)]; repeat (first | split | omega)
  · rw [if_pos rfl]; rw [low_3]
    unfold lev; rw [low_3, low_3, if_pos (show x - x % 16777216 - (x - x % 16777216) % 16777216 = x - x % 16777216 by omega)]; repeat (first | split | omega)
/-- until its slot begins, a time stays where it is -/
theorem lev_stays {n m x : Int} (hx : n < x) (h1 : n ≤ m) (h2 : m < fall n x) : lev m x = lev n x := by
  unfold fall at h2
  rcases lev_cases n x with e | e | e | e | e <;> rw [e] at h2 ⊢
  · have h3 := lev_0 e
    rw [if_neg (by omega)] at h2; have h2 : m < x - x % 1 := h2
    unfold lev; rw [low_0, low_0, if_pos (by omega)]
  · have h3 := lev_1 e
    rw [if_neg (by omega)] at h2; have h2 : m < x - x % 64 := h2
    unfold lev; rw [low_0, low_0, low_1, low_1, if_neg (by omega), if_pos (by omega)]
  · have h3 := lev_2 e
    rw [if_neg (by omega)] at h2; have h2 : m < x - x % 4096 := h2
    unfold lev; rw [low_0, low_0, low_1, low_1, low_2, low_2, if_neg (by omega), if_neg (by omega), if_pos (by omega)]
  · have h3 := lev_3 e
    rw [if_neg (by omega)] at h2; have h2 : m < x - x % 262144 := h2
    unfold lev; rw [low_0, low_0, low_1, low_1, low_2, low_2, low_3, low_3, if_neg (by omega), if_neg (by omega), if_neg (by omega), if_pos (by omega)]
  · have h3 := lev_4 e
    rw [if_pos rfl, low_3] at h2
    unfold lev; rw [low_0, low_0, low_1, low_1, low_2, low_2, low_3, low_3, if_neg (by omega), if_neg (by omega), if_neg (by omega), if_neg (by omega)]

end Go.Proofs.Ytckmkagijanbdaa.Sl
