/- Contracts of the document's own text of a span; of what is cut; and the chapter's examples. Plain mathematics of what is left of a span that is told as text. Contracts of package budget, and of the document's own answers for it: the next node's deadline. -/
import Derived.Test.YtncdiggejofbbaaGreatDoorTm4
import Derived.Test.YtncdiggejofbbaaGreatDoorTm
import Derived.Lib.ItoaWalk
namespace Go.Proofs.YtncdiggejofbbaaGreatDoor.Tm
open Go.RowKit St Go.Sort

theorem digits8 {n : Nat} (h : n ≤ 99999999) : n < 10 ^ (7 + 1) := by
  have e : (10 : Nat) ^ (7 + 1) = 100000000 := by decide
  omega



end Go.Proofs.YtncdiggejofbbaaGreatDoor.Tm

namespace Go.Proofs.YtncdiggejofbbaaGreatDoor.Tm

theorem rd_append : ∀ (l : List UInt8) (c : UInt8) (n : Nat), rd (l ++ [c]) n = match rd l n with | some m => rd [c] m | none => none
  | [], c, n => by simp [rd]
  | b :: r, c, n => by
    rw [List.cons_append, rd, rd]
    split
    · rfl
    · exact rd_append r c _
theorem rd_one (m d : Nat) (h : d ≤ 9) : rd [UInt8.ofNat (48 + d)] m = some (m * 10 + d) := by
  have e : (UInt8.ofNat (48 + d)).toNat = 48 + d := by rw [UInt8.toNat_ofNat']; omega
  rw [rd, e, if_neg (by omega), rd]
  congr 1
  omega
/-- a number's digits say the number -/
theorem rd_dec (q : Nat) : rd (Lib.decDigits q) 0 = some q := by
  induction q using Nat.strongRecOn with
  | _ q ih =>
    by_cases h : q < 10
    · rw [Lib.decDigits_one h, rd_one 0 q (by omega)]; simp
    · rw [Lib.decDigits, dif_neg h, rd_append, ih (q / 10) (by omega)]
      simp only
      rw [rd_one _ _ (by omega)]
      congr 1
      omega
theorem dec_len : ∀ (k q : Nat), q < 10 ^ (k + 1) → (Lib.decDigits q).length ≤ k + 1
  | 0, q, h => by rw [Lib.decDigits_one (by simpa using h)]; simp
  | k + 1, q, h => by
    by_cases h9 : q < 10
    · rw [Lib.decDigits_one h9]; simp
    · rw [Lib.decDigits, dif_neg h9]
      have := dec_len k (q / 10) (by rw [Nat.pow_succ] at h; omega)
      simp; omega
theorem dec_len8 {q : Nat} (h : q ≤ 99999999) : (Lib.decDigits q).length ≤ 8 := dec_len 7 q (by
  have e : (10 : Nat) ^ (7 + 1) = 100000000 := by decide
  omega)
theorem dec_len1 (q : Nat) : 1 ≤ (Lib.decDigits q).length := by rw [Lib.decDigits_length]; exact Lib.nDigits_pos q

/-- what is left of a span -/
def left (x : Int) : Int := x / uAt (fin x) * uAt (fin x)
theorem left_le {x : Int} : left x ≤ x := by unfold left; exact Int.ediv_mul_le _ (by have := uAt_pos (fin x); omega)
theorem left_lo {x : Int} (h : 0 ≤ x) : 0 ≤ left x := Int.mul_nonneg (Int.ediv_nonneg h (by have := uAt_pos (fin x); omega)) (by have := uAt_pos (fin x); omega)
theorem left_lt (x : Int) : x - left x < uAt (fin x) := by
  have h := Int.emod_add_mul_ediv x (uAt (fin x))
  have h2 := Int.emod_lt_of_pos x (uAt_pos (fin x))
  unfold left; rw [Int.mul_comm]; omega
theorem left_small {x : Int} (h : x ≤ 99999999) : left x = x := by unfold left fin; rw [if_pos h]; simp [uAt]
theorem left_left {x : Int} : left (left x) = left x := by
  by_cases h1 : x ≤ 99999999
  · rw [left_small h1, left_small h1]
  · unfold left fin
    by_cases h2 : x / 1000 ≤ 99999999
    · simp only [if_neg h1, if_pos h2, uAt]; simp; repeat' split
      all_goals omega
    · by_cases h3 : x / 1000000 ≤ 99999999
      · simp only [if_neg h1, if_neg h2, if_pos h3, uAt]; simp; repeat' split
        all_goals omega
      · by_cases h4 : x / 60000000 ≤ 99999999
        · simp only [if_neg h1, if_neg h2, if_neg h3, if_pos h4, uAt]; simp; repeat' split
          all_goals omega
        · simp only [if_neg h1, if_neg h2, if_neg h3, if_neg h4, uAt]; simp; repeat' split
          all_goals omega
theorem left_rises {a b : Int} (h0 : 0 ≤ a) (h : a ≤ b) (hb : b < 100000000000000) : left a ≤ left b := by
  unfold left fin
  repeat' split
  all_goals (simp only [uAt]; simp; omega)

theorem cAt_ne (k : Nat) : ¬ (cAt k).toNat = 110 := by
  unfold cAt
  repeat' split
  all_goals decide
theorem uAt_hi (k : Nat) : uAt k ≤ 3600000000 := by
  unfold uAt
  repeat' split
  all_goals omega
/-- reading what was told -/
theorem dec_enc {x : Int} (h0 : 0 ≤ x) (h1 : x ≤ 1125899906842624) : dec (enc x) = (left x, 0) := by
  have hu := uAt_pos (fin x)
  have hq0 : 0 ≤ x / uAt (fin x) := Int.ediv_nonneg h0 (by omega)
  obtain ⟨q, hq⟩ : ∃ q : Nat, x / uAt (fin x) = (q : Int) := ⟨(x / uAt (fin x)).toNat, by omega⟩
  have h9 := fin_eq h1
  have hl := left_le (x := x)
  have hl0 := left_lo h0
  have e : enc x = Lib.decDigits q ++ [cAt (fin x)] := by unfold enc; rw [hq]; rfl
  have hL : (enc x).length = (Lib.decDigits q).length + 1 := by rw [e]; simp
  have hlen8 := dec_len8 (q := q) (by omega)
  have hlen1 := dec_len1 q
  have hlast : (enc x).getD (Lib.decDigits q).length 0 = cAt (fin x) := by rw [e]; simp
  unfold dec
  rw [if_neg (by omega), hL, Nat.add_sub_cancel, hlast, show (enc x).take (Lib.decDigits q).length = Lib.decDigits q by rw [e]; simp, rd_dec]
  have hc2 := cAt_ne (fin x)
  simp only [hc2, if_false, unit_cAt]
  rw [if_neg (by omega)]
  congr 1
  unfold Tk.mul
  have hu9 := uAt_hi (fin x)
  rw [Tk.clamp_id _ (by omega) (by omega), Tk.clamp_id _ (by omega) (by omega), ← hq]
  show min (left x) Tk.most = left x
  unfold Tk.most
  omega
theorem enc_size {x : Int} (h0 : 0 ≤ x) (h1 : x ≤ 1125899906842624) : ∃ m, (enc x).length = m + 1 ∧ 1 ≤ m ∧ m ≤ 8 ∧ (enc x).getD m 0 = cAt (fin x) := by
  have hu := uAt_pos (fin x)
  have hq0 : 0 ≤ x / uAt (fin x) := Int.ediv_nonneg h0 (by omega)
  have h9 := fin_eq h1
  refine ⟨(Lib.decDigits (x / uAt (fin x)).toNat).length, by unfold enc; simp, dec_len1 _, dec_len8 (by omega), by unfold enc; simp⟩

end Go.Proofs.YtncdiggejofbbaaGreatDoor.Tm

namespace Go.Proofs.YtncdiggejofbbaaGreatDoor.Bu
open Go.RowKit St Go.Sort Tm

/-- the world of the call, or one behind it in which what was there stands, the library's table with it -/
def At (a b : World) : Prop := Kept a b ∧ Tab b
theorem At.refl {a : World} (h : Tab a) : At a a := ⟨Kept.refl a, h⟩
theorem At.go {a b c : World} (h : At a b) (k : Kept b c) : At a c := ⟨h.1.trans k, h.2.kept k⟩
theorem at_of {f : FuncId} {args : Array Value} {v : Value} {a b : World} (hA : At a b)
    (h : Calls Tryz.prog f args b fun e w' => e = .returned v ∧ Kept b w') : Calls Tryz.prog f args b fun e w' => e = .returned v ∧ At a w' :=
  h.mono fun _ _ ⟨he, hk⟩ => ⟨he, hA.go hk⟩

/-- the next node's timeout -/
def hop (a b : Int) : List UInt8 := enc (Tk.sub a b)
/-- the next node's deadline -/
def next (a b : Int) : Int := Tk.add b (left (Tk.sub a b))
theorem dl_hop (a b : Int) : dl b (hop a b) = (next a b, 0) := dl_yes (dec_enc (Tk.sub_lo a b) (Tk.sub_hi a b))
theorem clamp_sub (a b : Int) : Tk.clamp (Tk.sub a b) = Tk.sub a b := Tk.clamp_id _ (Tk.sub_lo a b) (Tk.sub_hi a b)

/-- a text of its bytes -/
def str (l : List UInt8) : ByteArray := ⟨l.toArray⟩
theorem str_list (l : List UInt8) : (str l).data.toList = l := rfl

set_option maxHeartbeats 400000 in
theorem hop_any (a b : Int) (w : World) (ht : Tab w) :
    Calls Tryz.prog 42 #[.int .i64 a, .int .i64 b] w fun e w' => e = .returned (.string (str (hop a b))) ∧ Kept w w' := by
  have c1 : ∀ w, Tab w → Calls Tryz.prog 61 #[.int .i64 (Tk.sub a b)] w fun e w' => e = .returned (.string (str (hop a b))) ∧ Kept w w' := fun w ht => by
    have := enc_any (Tk.sub a b) w ht
    rw [clamp_sub] at this
    exact this
  have C1 := Lib.hid c1
  clear c1
  go_enter Tryz.func42, Tryz.ntmps42
  go_wp2_with (first | (go_at_call 38; refine (left_any _ _ _).mono ?_; rintro e w' ⟨rfl, rfl⟩) | (go_at_call 61; refine (C1.out _ ht).mono ?_; rintro e w' ⟨rfl, HW⟩))
  go_ret
  exact ⟨rfl, HW⟩




end Go.Proofs.YtncdiggejofbbaaGreatDoor.Bu
