/- Plain mathematics of identities: what may be, the one row of keys. No function of the program is spoken of here. -/
import Derived.Test.YtcoagmkncjonmaaDoorChecked
import Derived.WalkKit
namespace Go.Proofs.YtcoagmkncjonmaaDoor.IdM
open Go
set_option linter.unusedVariables false

def rightB (n i s : Int) : Bool := decide (0 ≤ n ∧ n ≤ 63) && (decide (0 ≤ i ∧ i ≤ 65535) && decide (1 ≤ s ∧ s ≤ 16777215))
def keyB (n i s a : Int) : Bool := rightB n i s && decide (0 ≤ a ∧ a ≤ 5)
theorem right_iff {n i s : Int} : rightB n i s = true ↔ (0 ≤ n ∧ n ≤ 63) ∧ (0 ≤ i ∧ i ≤ 65535) ∧ (1 ≤ s ∧ s ≤ 16777215) := by
  simp [rightB]
theorem right_no {n i s : Int} (h : ¬ ((0 ≤ n ∧ n ≤ 63) ∧ (0 ≤ i ∧ i ≤ 65535) ∧ (1 ≤ s ∧ s ≤ 16777215))) : rightB n i s = false := by
  cases hr : rightB n i s with
  | true => exact absurd (right_iff.1 hr) h
  | false => rfl
theorem key_iff {n i s a : Int} : keyB n i s a = true ↔ rightB n i s = true ∧ (0 ≤ a ∧ a ≤ 5) := by simp [keyB]
def I64 (n : Int) : Prop := -9223372036854775808 ≤ n ∧ n ≤ 9223372036854775807

/-! ### the one row -/
def cmpI (a b : Int) : Int := if a < b then -1 else if b < a then 1 else 0
def orI (a b : Int) : Int := if a = 0 then b else a
def compareI (n i s n' i' s' : Int) : Int := orI (cmpI n n') (orI (cmpI i i') (cmpI s s'))
def keysI (n i s a n' i' s' a' : Int) : Int := orI (compareI n i s n' i' s') (cmpI a a')
theorem cmp_lt {a b : Int} (h : a < b) : cmpI a b = -1 := by simp [cmpI, h]
theorem cmp_gt {a b : Int} (h : b < a) : cmpI a b = 1 := by unfold cmpI; rw [if_neg (by omega), if_pos h]
theorem cmp_eq (a : Int) : cmpI a a = 0 := by simp [cmpI]
theorem cmp_cases (a b : Int) : (a < b ∧ cmpI a b = -1) ∨ (a = b ∧ cmpI a b = 0) ∨ (b < a ∧ cmpI a b = 1) := by
  rcases Int.lt_trichotomy a b with h | h | h
  · exact .inl ⟨h, cmp_lt h⟩
  · subst h; exact .inr (.inl ⟨rfl, cmp_eq a⟩)
  · exact .inr (.inr ⟨h, cmp_gt h⟩)
theorem cmp_ne {a b : Int} (h : a ≠ b) : cmpI a b ≠ 0 := by rcases cmp_cases a b with h1 | h1 | h1 <;> omega
theorem or_zero (b : Int) : orI 0 b = b := rfl
theorem or_ne {a : Int} (b : Int) (h : a ≠ 0) : orI a b = a := by simp [orI, h]
theorem compare_bd (n i s n' i' s' : Int) : -1 ≤ compareI n i s n' i' s' ∧ compareI n i s n' i' s' ≤ 1 := by
  unfold compareI orI
  rcases cmp_cases n n' with h | h | h <;> rcases cmp_cases i i' with g | g | g <;> rcases cmp_cases s s' with k | k | k <;> simp [h.2, g.2, k.2]
theorem keys_cases (n i s a n' i' s' a' : Int) :
    (keysI n i s a n' i' s' a' = -1 ∧ keysI n' i' s' a' n i s a = 1 ∧ (n < n' ∨ n = n' ∧ (i < i' ∨ i = i' ∧ (s < s' ∨ s = s' ∧ a < a')))) ∨
    (keysI n i s a n' i' s' a' = 0 ∧ keysI n' i' s' a' n i s a = 0 ∧ n = n' ∧ i = i' ∧ s = s' ∧ a = a') ∨
    (keysI n i s a n' i' s' a' = 1 ∧ keysI n' i' s' a' n i s a = -1 ∧ (n' < n ∨ n = n' ∧ (i' < i ∨ i = i' ∧ (s' < s ∨ s = s' ∧ a' < a)))) := by
  unfold keysI compareI orI
  rcases Int.lt_trichotomy n n' with h | h | h
  · rw [cmp_lt h, cmp_gt h]; simp; omega
  · subst h
    rw [cmp_eq]
    rcases Int.lt_trichotomy i i' with h | h | h
    · rw [cmp_lt h, cmp_gt h]; simp; omega
    · subst h
      rw [cmp_eq]
      rcases Int.lt_trichotomy s s' with h | h | h
      · rw [cmp_lt h, cmp_gt h]; simp; omega
      · subst h
        rw [cmp_eq]
        rcases Int.lt_trichotomy a a' with h | h | h
        · rw [cmp_lt h, cmp_gt h]; simp; omega
        · subst h; rw [cmp_eq]; simp
        · rw [cmp_lt h, cmp_gt h]; simp; omega
      · rw [cmp_lt h, cmp_gt h]; simp; omega
    · rw [cmp_lt h, cmp_gt h]; simp; omega
  · rw [cmp_lt h, cmp_gt h]; simp; omega
theorem keys_bd (n i s a n' i' s' a' : Int) : -1 ≤ keysI n i s a n' i' s' a' ∧ keysI n i s a n' i' s' a' ≤ 1 := by
  rcases keys_cases n i s a n' i' s' a' with h | h | h <;> omega
theorem keys_on {n i s a n' i' s' a' m j t b : Int} (h1 : keysI n i s a n' i' s' a' ≤ 0) (h2 : keysI n' i' s' a' m j t b ≤ 0) : keysI n i s a m j t b ≤ 0 := by
  rcases keys_cases n i s a n' i' s' a' with h | h | h
  · rcases keys_cases n' i' s' a' m j t b with g | g | g
    · rcases keys_cases n i s a m j t b with k | k | k
      · omega
      · omega
      · omega
    · rcases keys_cases n i s a m j t b with k | k | k <;> omega
    · omega
  · obtain ⟨_, _, rfl, rfl, rfl, rfl⟩ := h; exact h2
  · omega

/-- where the search for the first that is not zero stands -/
def At3 (a b c : Int) (k : Nat) : Prop := k = 0 ∨ (k = 1 ∧ a = 0) ∨ (k = 2 ∧ a = 0 ∧ b = 0) ∨ (k = 3 ∧ a = 0 ∧ b = 0 ∧ c = 0)
def At2 (a b : Int) (k : Nat) : Prop := k = 0 ∨ (k = 1 ∧ a = 0) ∨ (k = 2 ∧ a = 0 ∧ b = 0)


end Go.Proofs.YtcoagmkncjonmaaDoor.IdM
