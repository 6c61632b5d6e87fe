/- Contracts of the document's own text of a span; of what is cut; and the chapter's examples. Plain mathematics of what is left of a span that is told as text. Contracts of package budget, and of the document's own answers for it: the next node's deadline. -/
import Derived.Test.YtncdiggejofbbaaDoorTm4
import Derived.Test.YtncdiggejofbbaaDoorTmMath
import Derived.Lib.ItoaWalk
import Derived.Test.YtncdiggejofbbaaDoorTm
namespace Go.Proofs.YtncdiggejofbbaaDoor.Tm
open Go.RowKit St Go.Sort

theorem digits8 {n : Nat} (h : n ≤ 99999999) : n < 10 ^ (7 + 1) := by
  have e : (10 : Nat) ^ (7 + 1) = 100000000 := by decide
  omega

set_option maxHeartbeats 1000000 in
theorem renc_any (t : Int) (w : World) :
    Calls Tryd.prog 42 #[.int .i64 t] w fun e w' => e = .returned (.string ⟨(enc (Tk.clamp t)).toArray⟩) ∧ Kept w w' := by
  have h0 := Tk.clamp_lo t
  have h1 := Tk.clamp_hi t
  obtain ⟨x, hx⟩ : ∃ x, Tk.clamp t = x := ⟨_, rfl⟩
  have hclamp := fun w => Tk.rclamp_any t w
  rw [hx] at hclamp h0 h1 ⊢
  have h4 := fin_le x
  have HC := Lib.hid hclamp
  have HQ := Lib.hid (fin_eq h1)
  have HX := Lib.hid (show enc x = Lib.decDigits (x / uAt (fin x)).toNat ++ [cAt (fin x)] from rfl)
  clear hclamp hx
  go_enter Tryd.func42, Tryd.ntmps42
  go_wp2_with (go_at_call 30; refine (HC.out _).mono ?_; rintro e w' ⟨rfl, rfl⟩)
  go_loop [4] (fun i => ∃ k : Nat, k ≤ fin x ∧ i = .int .i64 (k : Int)) (fun i => 5 - (intOf i).toNat)
  case atStart => exact ⟨0, Nat.zero_le _, rfl⟩
  case round =>
    obtain ⟨k, hk, rfl⟩ := hrel
    obtain ⟨c, u, hidx, hu, hu0, hc, hU⟩ := unit_at k (by omega)
    obtain ⟨D, hcut, hD, hS⟩ := unit_cut k (by omega)
    have hqn : 0 ≤ x / u := Int.ediv_nonneg h0 (by omega)
    obtain ⟨q, hq⟩ : ∃ q : Int, x / u = q := ⟨_, rfl⟩
    obtain ⟨n, hn⟩ : ∃ n : Nat, q = (n : Int) := ⟨q.toNat, by omega⟩
    rcases Nat.lt_or_ge k (fin x) with hlt | hge
    · have hq1 : 100000000 ≤ q := by have := fin_lt hlt; rw [← hU.out] at this; omega
      clear hqn hn
      go_wp2_with (go_at_call 69; refine (runit_any _ _).mono ?_; rintro e w' ⟨rfl, rfl⟩)
      go_round
      case rel => exact ⟨k + 1, by omega, by go_num⟩
      case measure => simp [intOf]; omega
    · have hkf : k = fin x := by omega
      have hq9 := HQ.out
      rw [← hkf, ← hU.out] at hq9
      obtain ⟨E, hE, hEl, hEs⟩ := digits_named n (by omega)
      have HE := Lib.hid (show E.data.toList = Lib.decDigits (x / uAt (fin x)).toNat by rw [hEl, ← hkf, ← hU.out, hq, hn]; rfl)
      have n1 : ¬ 9223372036854775807 < E.size + D.size := by have := hS.out; omega
      have n2 : ¬ 9223372036854775807 < E.size + 1 := by omega
      have hdig : ∀ w, Calls Tryd.prog 70 #[.int .i64 q] w fun e w' => e = .returned (.string E) ∧ Kept w w' := fun w => by
        rw [← hE, hn]; exact digits_any 7 n w (digits8 (by omega)) (by omega)
      have hdig2 : ∀ p : Regrown, Calls Tryd.prog 70 #[.int .i64 q] (grow (redrawn w p.d) p.os) fun e w'' => e = .returned (.string E) ∧ ∃ p : Regrown, w'' = grow (redrawn w p.d) p.os :=
        fun p => Calls.regrown_of (hdig _)
      have HG := Lib.hid hdig
      have HI := Lib.hid hdig2
      have hq1 : q < 100000000 := by omega
      have hq0 : 0 ≤ q := by omega
      have HK := Lib.hid hkf
      rcases Nat.lt_or_ge k 4 with hk4 | hk4
      · clear hdig hdig2 hE hEl hEs hqn hq9 hkf hn
        go_wp2_with (go_at_call 69; refine (runit_any _ _).mono ?_; rintro e w' ⟨rfl, rfl⟩)
        refine wp_region_quiet_below (by kernel_rfl) (by kernel_rfl) ?_
        repeat (go_big_quiet_step (exact HI.out _))
        refine wpQuiet_nil ?_
        intro _ hw'
        obtain ⟨⟨dq, osq⟩, hw''⟩ := hw'
        subst hw''
        go_wp2_with fail
        go_ret
        exact ⟨ret_str (by simp [hD.out, HX.out, HE.out, ← HK.out]), below_regrown w dq osq⟩
      · have hkk : k = 4 := by omega
        subst hkk
        have hc72 : c = 72 := hc.out
        subst hc72
        clear hdig hdig2 hE hEl hEs hqn hq9 hkf hn
        go_wp2_with (first | (go_at_call 69; refine (runit_any _ _).mono ?_; rintro e w' ⟨rfl, rfl⟩) | (go_at_call 70; refine (HG.out _).mono ?_; rintro e w' ⟨rfl, HW⟩))
        go_ret
        exact ⟨ret_str (by simp [HX.out, HE.out, ← HK.out]; rfl), HW⟩


end Go.Proofs.YtncdiggejofbbaaDoor.Tm

namespace Go.Proofs.YtncdiggejofbbaaDoor.Tm

theorem rd_append : ∀ (l : List UInt8) (c : UInt8) (n : Nat), rd (l ++ [c]) n = match rd l n with | some m => rd [c] m | none => none
  | [], c, n => by simp [rd]
  | b :: r, c, n => by
    rw [List.cons_append, rd, rd]
    split
    · rfl
    · exact rd_append r c _
theorem rd_one (m d : Nat) (h : d ≤ 9) : rd [UInt8.ofNat (48 + d)] m = some (m * 10 + d) := by
  have e : (UInt8.ofNat (48 + d)).toNat = 48 + d := by rw [UInt8.toNat_ofNat']; omega
  rw [rd, e, if_neg (by omega), rd]
  congr 1
  omega
/-- a number's digits say the number -/
theorem rd_dec (q : Nat) : rd (Lib.decDigits q) 0 = some q := by
  induction q using Nat.strongRecOn with
  | _ q ih =>
    by_cases h : q < 10
    · rw [Lib.decDigits_one h, rd_one 0 q (by omega)]; simp
    · rw [Lib.decDigits, dif_neg h, rd_append, ih (q / 10) (by omega)]
      simp only
      rw [rd_one _ _ (by omega)]
      congr 1
      omega
theorem dec_len : ∀ (k q : Nat), q < 10 ^ (k + 1) → (Lib.decDigits q).length ≤ k + 1
  | 0, q, h => by rw [Lib.decDigits_one (by simpa using h)]; simp
  | k + 1, q, h => by
    by_cases h9 : q < 10
    · rw [Lib.decDigits_one h9]; simp
    · rw [Lib.decDigits, dif_neg h9]
      have := dec_len k (q / 10) (by rw [Nat.pow_succ] at h; omega)
      simp; omega
theorem dec_len8 {q : Nat} (h : q ≤ 99999999) : (Lib.decDigits q).length ≤ 8 := dec_len 7 q (by
  have e : (10 : Nat) ^ (7 + 1) = 100000000 := by decide
  omega)
theorem dec_len1 (q : Nat) : 1 ≤ (Lib.decDigits q).length := by rw [Lib.decDigits_length]; exact Lib.nDigits_pos q

/-- what is left of a span -/
def left (x : Int) : Int := x / uAt (fin x) * uAt (fin x)
theorem left_le {x : Int} : left x ≤ x := by unfold left; exact Int.ediv_mul_le _ (by have := uAt_pos (fin x); omega)
theorem left_lo {x : Int} (h : 0 ≤ x) : 0 ≤ left x := Int.mul_nonneg (Int.ediv_nonneg h (by have := uAt_pos (fin x); omega)) (by have := uAt_pos (fin x); omega)
theorem left_lt (x : Int) : x - left x < uAt (fin x) := by
  have h := Int.emod_add_mul_ediv x (uAt (fin x))
  have h2 := Int.emod_lt_of_pos x (uAt_pos (fin x))
  unfold left; rw [Int.mul_comm]; omega
theorem left_small {x : Int} (h : x ≤ 99999999) : left x = x := by unfold left fin; rw [if_pos h]; simp [uAt]
theorem left_left {x : Int} : left (left x) = left x := by
  by_cases h1 : x ≤ 99999999
  · rw [left_small h1, left_small h1]
  · unfold left fin
    by_cases h2 : x / 1000 ≤ 99999999
    · simp only [if_neg h1, if_pos h2, uAt]; simp; repeat' split
      all_goals omega
    · by_cases h3 : x / 1000000 ≤ 99999999
      · simp only [if_neg h1, if_neg h2, if_pos h3, uAt]; simp; repeat' split
        all_goals omega
      · by_cases h4 : x / 60000000 ≤ 99999999
        · simp only [if_neg h1, if_neg h2, if_neg h3, if_pos h4, uAt]; simp; repeat' split
          all_goals omega
        · simp only [if_neg h1, if_neg h2, if_neg h3, if_neg h4, uAt]; simp; repeat' split
          all_goals omega
theorem left_rises {a b : Int} (h0 : 0 ≤ a) (h : a ≤ b) (hb : b < 100000000000000) : left a ≤ left b := by
  unfold left fin
  repeat' split
  all_goals (simp only [uAt]; simp; omega)

theorem cAt_ne (k : Nat) : ¬ (cAt k).toNat = 110 := by
  unfold cAt
  repeat' split
  all_goals decide
theorem uAt_hi (k : Nat) : uAt k ≤ 3600000000 := by
  unfold uAt
  repeat' split
  all_goals omega
/-- reading what was told -/
theorem dec_enc {x : Int} (h0 : 0 ≤ x) (h1 : x ≤ 1125899906842624) : dec (enc x) = (left x, 0) := by
  have hu := uAt_pos (fin x)
  have hq0 : 0 ≤ x / uAt (fin x) := Int.ediv_nonneg h0 (by omega)
  obtain ⟨q, hq⟩ : ∃ q : Nat, x / uAt (fin x) = (q : Int) := ⟨(x / uAt (fin x)).toNat, by omega⟩
  have h9 := fin_eq h1
  have hl := left_le (x := x)
  have hl0 := left_lo h0
  have e : enc x = Lib.decDigits q ++ [cAt (fin x)] := by unfold enc; rw [hq]; rfl
  have hL : (enc x).length = (Lib.decDigits q).length + 1 := by rw [e]; simp
  have hlen8 := dec_len8 (q := q) (by omega)
  have hlen1 := dec_len1 q
  have hlast : (enc x).getD (Lib.decDigits q).length 0 = cAt (fin x) := by rw [e]; simp
  unfold dec
  rw [if_neg (by omega), hL, Nat.add_sub_cancel, hlast, show (enc x).take (Lib.decDigits q).length = Lib.decDigits q by rw [e]; simp, rd_dec]
  have hc2 := cAt_ne (fin x)
  simp only [hc2, if_false, unit_cAt]
  rw [if_neg (by omega)]
  congr 1
  unfold Tk.mul
  have hu9 := uAt_hi (fin x)
  rw [Tk.clamp_id _ (by omega) (by omega), Tk.clamp_id _ (by omega) (by omega), ← hq]
  show min (left x) Tk.most = left x
  unfold Tk.most
  omega
theorem enc_size {x : Int} (h0 : 0 ≤ x) (h1 : x ≤ 1125899906842624) : ∃ m, (enc x).length = m + 1 ∧ 1 ≤ m ∧ m ≤ 8 ∧ (enc x).getD m 0 = cAt (fin x) := by
  have hu := uAt_pos (fin x)
  have hq0 : 0 ≤ x / uAt (fin x) := Int.ediv_nonneg h0 (by omega)
  have h9 := fin_eq h1
  refine ⟨(Lib.decDigits (x / uAt (fin x)).toNat).length, by unfold enc; simp, dec_len1 _, dec_len8 (by omega), by unfold enc; simp⟩

end Go.Proofs.YtncdiggejofbbaaDoor.Tm

namespace Go.Proofs.YtncdiggejofbbaaDoor.Bu
open Go.RowKit St Go.Sort Tm

/-- the world of the call, or one behind it in which what was there stands, the library's table with it -/
def At (a b : World) : Prop := Kept a b ∧ Tab b
theorem At.refl {a : World} (h : Tab a) : At a a := ⟨Kept.refl a, h⟩
theorem At.go {a b c : World} (h : At a b) (k : Kept b c) : At a c := ⟨h.1.trans k, h.2.kept k⟩
theorem at_of {f : FuncId} {args : Array Value} {v : Value} {a b : World} (hA : At a b)
    (h : Calls Tryd.prog f args b fun e w' => e = .returned v ∧ Kept b w') : Calls Tryd.prog f args b fun e w' => e = .returned v ∧ At a w' :=
  h.mono fun _ _ ⟨he, hk⟩ => ⟨he, hA.go hk⟩

/-- the next node's timeout -/
def hop (a b : Int) : List UInt8 := enc (Tk.sub a b)
/-- the next node's deadline -/
def next (a b : Int) : Int := Tk.add b (left (Tk.sub a b))
theorem dl_hop (a b : Int) : dl b (hop a b) = (next a b, 0) := dl_yes (dec_enc (Tk.sub_lo a b) (Tk.sub_hi a b))
theorem clamp_sub (a b : Int) : Tk.clamp (Tk.sub a b) = Tk.sub a b := Tk.clamp_id _ (Tk.sub_lo a b) (Tk.sub_hi a b)

/-- a text of its bytes -/
def str (l : List UInt8) : ByteArray := ⟨l.toArray⟩
theorem str_list (l : List UInt8) : (str l).data.toList = l := rfl

set_option maxHeartbeats 400000 in
theorem hop_any (a b : Int) (w : World) (ht : Tab w) :
    Calls Tryd.prog 67 #[.int .i64 a, .int .i64 b] w fun e w' => e = .returned (.string (str (hop a b))) ∧ Kept w w' := by
  have c1 : ∀ w, Tab w → Calls Tryd.prog 86 #[.int .i64 (Tk.sub a b)] w fun e w' => e = .returned (.string (str (hop a b))) ∧ Kept w w' := fun w ht => by
    have := enc_any (Tk.sub a b) w ht
    rw [clamp_sub] at this
    exact this
  have C1 := Lib.hid c1
  clear c1
  go_enter Tryd.func67, Tryd.ntmps67
  go_wp2_with (first | (go_at_call 55; refine (left_any _ _ _).mono ?_; rintro e w' ⟨rfl, rfl⟩) | (go_at_call 86; refine (C1.out _ ht).mono ?_; rintro e w' ⟨rfl, HW⟩))
  go_ret
  exact ⟨rfl, HW⟩

theorem rhop_any (a b : Int) (w : World) :
    Calls Tryd.prog 42 #[.int .i64 (Tk.sub a b)] w fun e w' => e = .returned (.string (str (hop a b))) ∧ Kept w w' := by
  have := renc_any (Tk.sub a b) w
  rw [clamp_sub] at this
  exact this



end Go.Proofs.YtncdiggejofbbaaDoor.Bu
