/- Plain mathematics of spans as text: no Go text is spoken of here. -/
import Derived.Test.YtncdiggejofbbaaDoorTk
import Derived.Lib.ItoaNum
namespace Go.Proofs.YtncdiggejofbbaaDoor.Tm

/-- a unit's ticks; 0: none -/
def unit (c : Int) : Int := if c = 117 then 1 else if c = 109 then 1000 else if c = 83 then 1000000 else if c = 77 then 60000000 else if c = 72 then 3600000000 else 0
theorem unit_lo (c : Int) : 0 ≤ unit c := by unfold unit; repeat' split
                                             all_goals omega
theorem unit_hi (c : Int) : unit c ≤ 3600000000 := by unfold unit; repeat' split
                                                      all_goals omega

/-- the number that digits say, behind n -/
def rd : List UInt8 → Nat → Option Nat
  | [], n => some n
  | c :: r, n => if c.toNat < 48 ∨ 57 < c.toNat then none else rd r (n * 10 + (c.toNat - 48))

theorem rd_drop_bad {l : List UInt8} {k n : Nat} (hk : k < l.length) (h : (l.getD k 0).toNat < 48 ∨ 57 < (l.getD k 0).toNat) : rd (l.drop k) n = none := by
  rw [List.drop_eq_getElem_cons hk, rd]
  have e : l.getD k 0 = l[k] := by simp [List.getD, hk]
  rw [e] at h
  rw [if_pos h]
theorem rd_drop_digit {l : List UInt8} {k n : Nat} (hk : k < l.length) (h : ¬ ((l.getD k 0).toNat < 48 ∨ 57 < (l.getD k 0).toNat)) :
    rd (l.drop k) n = rd (l.drop (k + 1)) (n * 10 + ((l.getD k 0).toNat - 48)) := by
  have e : l.getD k 0 = l[k] := by simp [List.getD, hk]
  rw [List.drop_eq_getElem_cons hk, rd]
  rw [e] at h ⊢
  rw [if_neg h]
theorem rd_lt : ∀ (l : List UInt8) (n k m : Nat), rd l n = some m → n < 10 ^ k → m < 10 ^ (k + l.length)
  | [], n, k, m, h, hn => by simp [rd] at h; subst h; simpa using hn
  | c :: r, n, k, m, h, hn => by
    rw [rd] at h
    split at h
    · cases h
    · have := rd_lt r _ (k + 1) m h (by rw [Nat.pow_succ]; omega)
      simpa [Nat.add_assoc, Nat.add_comm 1] using this
theorem rd_8 {l : List UInt8} {m : Nat} (h : rd l 0 = some m) (h8 : l.length ≤ 8) : m ≤ 99999999 := by
  have h1 := rd_lt l 0 0 m h (by simp)
  have h2 : 10 ^ (0 + l.length) ≤ 10 ^ 8 := Nat.pow_le_pow_right (by decide) (by omega)
  simp at h1 h2
  omega
/-- one step of reading keeps within as many digits -/
theorem step_lt {n k d : Nat} (h : n < 10 ^ k) (hd : d ≤ 9) (hk : k < 8) : n * 10 + d < 10 ^ (k + 1) ∧ n * 10 + d ≤ 99999999 := by
  have e : 10 ^ (k + 1) = 10 ^ k * 10 := Nat.pow_succ ..
  have h2 : 10 ^ (k + 1) ≤ 10 ^ 8 := Nat.pow_le_pow_right (by decide) (by omega)
  have h3 : (10 : Nat) ^ 8 = 100000000 := by decide
  omega

/-- what a text says: the span, and the error -/
def dec (l : List UInt8) : Int × Int :=
  if l.length < 2 ∨ 9 < l.length then (0, 3)
  else match rd (l.take (l.length - 1)) 0 with
    | none => (0, 5)
    | some n =>
      if (l.getD (l.length - 1) 0).toNat = 110 then ((n : Int) / 1000, 0)
      else if unit (l.getD (l.length - 1) 0).toNat = 0 then (0, 5)
      else (Tk.mul n (unit (l.getD (l.length - 1) 0).toNat), 0)

/-- the unit at a place of the row of units, and its byte -/
def cAt (k : Nat) : UInt8 := if k = 0 then 117 else if k = 1 then 109 else if k = 2 then 83 else if k = 3 then 77 else 72
def uAt (k : Nat) : Int := if k = 0 then 1 else if k = 1 then 1000 else if k = 2 then 1000000 else if k = 3 then 60000000 else 3600000000
theorem unit_cAt (k : Nat) : unit ((cAt k).toNat : Int) = uAt k := by
  unfold cAt uAt; repeat' split
  all_goals decide
theorem uAt_pos (k : Nat) : 0 < uAt k := by unfold uAt; repeat' split
                                            all_goals omega
/-- the first unit in which a span has no more than eight digits -/
def fin (t : Int) : Nat := if t ≤ 99999999 then 0 else if t / 1000 ≤ 99999999 then 1 else if t / 1000000 ≤ 99999999 then 2 else if t / 60000000 ≤ 99999999 then 3 else 4
theorem fin_le (t : Int) : fin t ≤ 4 := by unfold fin; repeat' split
                                           all_goals omega
theorem fin_lt {t : Int} {k : Nat} (h : k < fin t) : 99999999 < t / uAt k := by
  have h4 := fin_le t
  have hk : k = 0 ∨ k = 1 ∨ k = 2 ∨ k = 3 := by omega
  rcases hk with rfl | rfl | rfl | rfl <;> simp only [uAt] <;> unfold fin at h <;> (repeat' split at h) <;> simp at * <;> omega
theorem fin_eq {t : Int} (h : t ≤ 1125899906842624) : t / uAt (fin t) ≤ 99999999 := by
  unfold fin; repeat' split
  all_goals (simp only [uAt]; simp; omega)

/-- a span's text -/
def enc (t : Int) : List UInt8 := Lib.decDigits (t / uAt (fin t)).toNat ++ [cAt (fin t)]

end Go.Proofs.YtncdiggejofbbaaDoor.Tm
