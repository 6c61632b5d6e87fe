/- Plain mathematics of what is left of a span that is told as text. -/
import Derived.Test.YtbfnbklmfjfphaaDoorTmMath
import Derived.Lib.ItoaWalk
namespace Go.Proofs.YtbfnbklmfjfphaaDoor.Tm

theorem rd_append : ∀ (l : List UInt8) (c : UInt8) (n : Nat), rd (l ++ [c]) n = match rd l n with | some m => rd [c] m | none => none
  | [], c, n => by simp [rd]
  | b :: r, c, n => by
    rw [List.cons_append, rd, rd]
    split
    · rfl
    · exact rd_append r c _
theorem rd_one (m d : Nat) (h : d ≤ 9) : rd [UInt8.ofNat (48 + d)] m = some (m * 10 + d) := by
  have e : (UInt8.ofNat (48 + d)).toNat = 48 + d := by rw [UInt8.toNat_ofNat']; omega
  rw [rd, e, if_neg (by omega), rd]
  congr 1
  omega
/-- a number's digits say the number -/
theorem rd_dec (q : Nat) : rd (Lib.decDigits q) 0 = some q := by
  induction q using Nat.strongRecOn with
  | _ q ih =>
    by_cases h : q < 10
    · rw [Lib.decDigits_one h, rd_one 0 q (by omega)]; simp
    · rw [Lib.decDigits, dif_neg h, rd_append, ih (q / 10) (by omega)]
      simp only
      rw [rd_one _ _ (by omega)]
      congr 1
      omega
theorem dec_len : ∀ (k q : Nat), q < 10 ^ (k + 1) → (Lib.decDigits q).length ≤ k + 1
  | 0, q, h => by rw [Lib.decDigits_one (by simpa using h)]; simp
  | k + 1, q, h => by
    by_cases h9 : q < 10
    · rw [Lib.decDigits_one h9]; simp
    · rw [Lib.decDigits, dif_neg h9]
      have := dec_len k (q / 10) (by rw [Nat.pow_succ] at h; omega)
      simp; omega
theorem dec_len8 {q : Nat} (h : q ≤ 99999999) : (Lib.decDigits q).length ≤ 8 := dec_len 7 q (by
  have e : (10 : Nat) ^ (7 + 1) = 100000000 := by decide
  omega)
theorem dec_len1 (q : Nat) : 1 ≤ (Lib.decDigits q).length := by rw [Lib.decDigits_length]; exact Lib.nDigits_pos q

/-- what is left of a span -/
def left (x : Int) : Int := x / uAt (fin x) * uAt (fin x)
theorem left_le {x : Int} : left x ≤ x := by unfold left; exact Int.ediv_mul_le _ (by have := uAt_pos (fin x); omega)
theorem left_lo {x : Int} (h : 0 ≤ x) : 0 ≤ left x := Int.mul_nonneg (Int.ediv_nonneg h (by have := uAt_pos (fin x); omega)) (by have := uAt_pos (fin x); omega)
theorem left_lt (x : Int) : x - left x < uAt (fin x) := by
  have h := Int.emod_add_mul_ediv x (uAt (fin x))
  have h2 := Int.emod_lt_of_pos x (uAt_pos (fin x))
  unfold left; rw [Int.mul_comm]; omega
theorem left_small {x : Int} (h : x ≤ 99999999) : left x = x := by unfold left fin; rw [if_pos h]; simp [uAt]
theorem left_left {x : Int} : left (left x) = left x := by
  by_cases h1 : x ≤ 99999999
  · rw [left_small h1, left_small h1]
  · unfold left fin
    by_cases h2 : x / 1000 ≤ 99999999
    · simp only [if_neg h1, if_pos h2, uAt]; simp; repeat' split
      all_goals omega
    · by_cases h3 : x / 1000000 ≤ 99999999
      · simp only [if_neg h1, if_neg h2, if_pos h3, uAt]; simp; repeat' split
        all_goals omega
      · by_cases h4 : x / 60000000 ≤ 99999999
        · simp only [if_neg h1, if_neg h2, if_neg h3, if_pos h4, uAt]; simp; repeat' split
          all_goals omega
        · simp only [if_neg h1, if_neg h2, if_neg h3, if_neg h4, uAt]; simp; repeat' split
          all_goals omega
theorem left_rises {a b : Int} (h0 : 0 ≤ a) (h : a ≤ b) (hb : b < 100000000000000) : left a ≤ left b := by
  unfold left fin
  repeat' split
  all_goals (simp only [uAt]; simp; omega)

theorem cAt_ne (k : Nat) : ¬ (cAt k).toNat = 110 := by
  unfold cAt
  repeat' split
  all_goals decide
theorem uAt_hi (k : Nat) : uAt k ≤ 3600000000 := by
  unfold uAt
  repeat' split
  all_goals omega
/-- reading what was told -/
theorem dec_enc {x : Int} (h0 : 0 ≤ x) (h1 : x ≤ 1125899906842624) : dec (enc x) = (left x, 0) := by
  have hu := uAt_pos (fin x)
  have hq0 : 0 ≤ x / uAt (fin x) := Int.ediv_nonneg h0 (by omega)
  obtain ⟨q, hq⟩ : ∃ q : Nat, x / uAt (fin x) = (q : Int) := ⟨(x / uAt (fin x)).toNat, by omega⟩
  have h9 := fin_eq h1
  have hl := left_le (x := x)
  have hl0 := left_lo h0
  have e : enc x = Lib.decDigits q ++ [cAt (fin x)] := by unfold enc; rw [hq]; rfl
  have hL : (enc x).length = (Lib.decDigits q).length + 1 := by rw [e]; simp
  have hlen8 := dec_len8 (q := q) (by omega)
  have hlen1 := dec_len1 q
  have hlast : (enc x).getD (Lib.decDigits q).length 0 = cAt (fin x) := by rw [e]; simp
  unfold dec
  rw [if_neg (by omega), hL, Nat.add_sub_cancel, hlast, show (enc x).take (Lib.decDigits q).length = Lib.decDigits q by rw [e]; simp, rd_dec]
  have hc2 := cAt_ne (fin x)
  simp only [hc2, if_false, unit_cAt]
  rw [if_neg (by omega)]
  congr 1
  unfold Tk.mul
  have hu9 := uAt_hi (fin x)
  rw [Tk.clamp_id _ (by omega) (by omega), Tk.clamp_id _ (by omega) (by omega), ← hq]
  show min (left x) Tk.most = left x
  unfold Tk.most
  omega
theorem enc_size {x : Int} (h0 : 0 ≤ x) (h1 : x ≤ 1125899906842624) : ∃ m, (enc x).length = m + 1 ∧ 1 ≤ m ∧ m ≤ 8 ∧ (enc x).getD m 0 = cAt (fin x) := by
  have hu := uAt_pos (fin x)
  have hq0 : 0 ≤ x / uAt (fin x) := Int.ediv_nonneg h0 (by omega)
  have h9 := fin_eq h1
  refine ⟨(Lib.decDigits (x / uAt (fin x)).toNat).length, by unfold enc; simp, dec_len1 _, dec_len8 (by omega), by unfold enc; simp⟩

end Go.Proofs.YtbfnbklmfjfphaaDoor.Tm
