/- Plain mathematics of numbers as bytes, and of reading: no function of the program is spoken of here. -/
import Derived.Test.YtpgfaklnbehmhaaDoorChecked
import Derived.WalkKit
namespace Go.Proofs.YtpgfaklnbehmhaaDoor.BsM
set_option linter.unusedVariables false

/-- the last k digits of n to the base 256, the highest one first -/
def be : Nat → Nat → List UInt8
  | 0, _ => []
  | k + 1, n => UInt8.ofNat (n / 256 ^ k) :: be k n
/-- the number that bytes tell -/
def val : List UInt8 → Nat
  | [] => 0
  | b :: l => b.toNat * 256 ^ l.length + val l

theorem be_len (k n : Nat) : (be k n).length = k := by induction k with | zero => rfl | succ k ih => simp [be, ih]
theorem be_zero (n : Nat) : be 0 n = [] := rfl
theorem be_succ (k n : Nat) : be (k + 1) n = UInt8.ofNat (n / 256 ^ k) :: be k n := rfl
theorem pow_pos' (k : Nat) : 0 < 256 ^ k := Nat.pow_pos (by decide)
theorem pow_succ' (k : Nat) : 256 ^ (k + 1) = 256 ^ k * 256 := Nat.pow_succ ..
theorem val_lt (l : List UInt8) : val l < 256 ^ l.length := by
  induction l with
  | nil => decide
  | cons b l ih =>
    have := b.toNat_lt
    simp only [val, List.length_cons, pow_succ']
    calc b.toNat * 256 ^ l.length + val l < b.toNat * 256 ^ l.length + 256 ^ l.length := by omega
      _ = (b.toNat + 1) * 256 ^ l.length := by rw [Nat.add_mul]; omega
      _ ≤ 256 * 256 ^ l.length := Nat.mul_le_mul_right _ (by omega)
      _ = _ := Nat.mul_comm ..
theorem val_be (k n : Nat) : val (be k n) = n % 256 ^ k := by
  induction k with
  | zero => simp [be, val, Nat.mod_one]
  | succ k ih =>
    simp only [be, val, be_len, ih, UInt8.toNat_ofNat']
    rw [pow_succ', Nat.mod_mul, Nat.mul_comm (n / 256 ^ k % _), Nat.add_comm]
theorem val_be_lt (k n : Nat) (h : n < 256 ^ k) : val (be k n) = n := by rw [val_be, Nat.mod_eq_of_lt h]
theorem be_add (k a n : Nat) : be k (a * 256 ^ k + n) = be k n := by
  induction k generalizing a with
  | zero => rfl
  | succ k ih =>
    have e : a * 256 ^ (k + 1) + n = (a * 256) * 256 ^ k + n := by rw [pow_succ', Nat.mul_assoc, Nat.mul_comm 256]
    have e2 : ((a * 256) * 256 ^ k + n) / 256 ^ k = a * 256 + n / 256 ^ k := by
      rw [Nat.mul_comm, Nat.mul_add_div (pow_pos' k)]
    rw [be_succ, be_succ, e, ih, e2]
    congr 1
    apply UInt8.toNat_inj.mp
    simp [UInt8.toNat_ofNat']
theorem be_val (l : List UInt8) : be l.length (val l) = l := by
  induction l with
  | nil => rfl
  | cons b l ih =>
    have h := val_lt l
    have e : (b.toNat * 256 ^ l.length + val l) / 256 ^ l.length = b.toNat := by
      rw [Nat.mul_comm, Nat.mul_add_div (pow_pos' _), Nat.div_eq_of_lt h]; rfl
    simp only [List.length_cons, be_succ, val, e, be_add, ih]
    simp
theorem val_snoc (l : List UInt8) (b : UInt8) : val (l ++ [b]) = val l * 256 + b.toNat := by
  induction l with
  | nil => simp [val]
  | cons c l ih =>
    simp only [List.cons_append, val, ih, List.length_append, List.length_cons, List.length_nil, Nat.zero_add, pow_succ', Nat.add_mul, Nat.mul_assoc]
    omega
theorem val_take (l : List UInt8) (k : Nat) (h : k < l.length) : val (l.take (k + 1)) = val (l.take k) * 256 + (l.getD k 0).toNat := by
  rw [List.take_succ_eq_append_getElem h, val_snoc, List.getD_eq_getElem?_getD, List.getElem?_eq_getElem h]; rfl
theorem val_take_lt (l : List UInt8) (k : Nat) : val (l.take k) < 256 ^ k :=
  Nat.lt_of_lt_of_le (val_lt _) (Nat.pow_le_pow_right (by decide) (List.length_take_le ..))
theorem pow_le (k j : Nat) (h : k ≤ j) : 256 ^ k ≤ 256 ^ j := Nat.pow_le_pow_right (by decide) h
theorem pow7 : 256 ^ 7 = 72057594037927936 := by decide
theorem pow6 : 256 ^ 6 = 281474976710656 := by decide

/-- whether numbers may have so many bytes; a number's bytes -/
def okw (k : Int) : Bool := decide (1 ≤ k) && decide (k ≤ 7)
def numOk (n k : Int) : Bool := okw k && decide (0 ≤ n) && decide (n.toNat / 256 ^ k.toNat = 0)
def numL (n k : Int) : List UInt8 := if numOk n k then be k.toNat n.toNat else []
def textL (l : List UInt8) : List UInt8 := if l.length ≤ 255 then UInt8.ofNat l.length :: l else []
def flagL (b : Bool) : List UInt8 := if b then [1] else [0]
theorem okw_yes {k : Int} (h1 : 1 ≤ k) (h2 : k ≤ 7) : okw k = true := by simp [okw, h1, h2]
theorem okw_lo {k : Int} (h : k < 1) : okw k = false := by simp [okw]; omega
theorem okw_hi {k : Int} (h : 7 < k) : okw k = false := by simp [okw]; omega
theorem okw_iff {k : Int} : okw k = true ↔ 1 ≤ k ∧ k ≤ 7 := by simp [okw]
theorem num_no {n k : Int} (h : numOk n k = false) : numL n k = [] := by simp [numL, h]
theorem num_yes {n k : Int} (h : numOk n k = true) : numL n k = be k.toNat n.toNat := by simp [numL, h]
theorem num_one (n : Nat) (h : n < 256) : numL (n : Int) 1 = [UInt8.ofNat n] := by
  have : numOk (n : Int) 1 = true := by simp [numOk, okw]; omega
  rw [num_yes this]; simp [be]
theorem numOk_lt {n k : Int} (h : numOk n k = true) : 1 ≤ k ∧ k ≤ 7 ∧ 0 ≤ n ∧ n.toNat < 256 ^ k.toNat := by
  simp only [numOk, okw, Bool.and_eq_true, decide_eq_true_eq] at h
  exact ⟨h.1.1.1, h.1.1.2, h.1.2, by have := (Nat.div_eq_zero_iff).mp h.2; have := pow_pos' k.toNat; omega⟩
theorem numOk_mk {n k : Int} (h1 : 1 ≤ k) (h2 : k ≤ 7) (h3 : 0 ≤ n) (h4 : n.toNat < 256 ^ k.toNat) : numOk n k = true := by
  simp only [numOk, okw, Bool.and_eq_true, decide_eq_true_eq]
  exact ⟨⟨⟨h1, h2⟩, h3⟩, Nat.div_eq_of_lt h4⟩
theorem num_len {n k : Int} (h : numOk n k = true) : (numL n k).length = k.toNat := by rw [num_yes h, be_len]
theorem num_val {n k : Int} (h : numOk n k = true) : val (numL n k) = n.toNat := by rw [num_yes h, val_be_lt _ _ (numOk_lt h).2.2.2]
theorem num_nil {n k : Int} : numL n k = [] ↔ numOk n k = false := by
  constructor
  · intro h
    by_cases h2 : numOk n k = true
    · have := num_len h2; have := numOk_lt h2; rw [h] at *; simp at *; omega
    · simpa using h2
  · exact num_no

/-- cells of which the last i are done -/
theorem cells_step {α : Type} (z : α) (k i : Nat) (x : α) (r : List α) (h : i < k) : (List.replicate (k - i) z ++ r).set (k - 1 - i) x = List.replicate (k - (i + 1)) z ++ x :: r := by
  have e : k - i = (k - (i + 1)) + 1 := by omega
  have e2 : k - 1 - i = k - (i + 1) := by omega
  rw [e, e2, List.replicate_succ', List.append_assoc, List.set_append_right _ _ (by simp)]
  simp

/-! ### what a reader does: the bytes that are left, and what is wrong -/
abbrev S := List UInt8 × Int
def failS (s : S) (x : Int) : S := if s.2 = 0 ∧ x ≠ 0 then ([], x) else s
def takeV (s : S) (n : Nat) : List UInt8 := if n ≤ s.1.length then s.1.take n else []
def takeS (s : S) (n : Nat) : S := if n ≤ s.1.length then (s.1.drop n, s.2) else failS s 3
def numV (s : S) (k : Int) : Nat := if okw k then val (takeV s k.toNat) else 0
def numS (s : S) (k : Int) : S := if okw k then takeS s k.toNat else failS s 2
def textV (s : S) : List UInt8 := takeV (numS s 1) (numV s 1)
def textS (s : S) : S := takeS (numS s 1) (numV s 1)
def flagV (s : S) : Bool := decide (numV s 1 = 1)
def flagS (s : S) : S := if 1 < numV s 1 then failS (numS s 1) 5 else numS s 1
def endS (s : S) : S := if 0 < s.1.length then failS s 5 else s
def endV (s : S) : Int := (endS s).2

theorem takeV_len (s : S) (n : Nat) : (takeV s n).length ≤ n := by unfold takeV; split <;> simp; omega
theorem takeV_le (s : S) (n : Nat) : (takeV s n).length ≤ s.1.length := by unfold takeV; split <;> simp; omega
theorem numV_lt (s : S) (k : Int) : numV s k < 72057594037927936 := by
  unfold numV
  split
  · rename_i h
    have := okw_iff.mp h
    have h1 := val_lt (takeV s k.toNat)
    have h2 := pow_le _ 7 (Nat.le_trans (takeV_len s k.toNat) (by omega))
    rw [pow7] at h2
    omega
  · decide
theorem numV_one_lt (s : S) : numV s 1 < 256 := by
  unfold numV
  rw [if_pos (show okw 1 = true from rfl)]
  have h1 := val_lt (takeV s (1 : Int).toNat)
  have h2 := pow_le _ 1 (takeV_len s (1 : Int).toNat)
  omega
theorem failS_len (s : S) (x : Int) : (failS s x).1.length ≤ s.1.length := by unfold failS; split <;> simp
theorem takeS_len (s : S) (n : Nat) : (takeS s n).1.length ≤ s.1.length := by unfold takeS; split; simp; exact failS_len ..
theorem numS_len (s : S) (k : Int) : (numS s k).1.length ≤ s.1.length := by unfold numS; split; exact takeS_len ..; exact failS_len ..

end Go.Proofs.YtpgfaklnbehmhaaDoor.BsM
