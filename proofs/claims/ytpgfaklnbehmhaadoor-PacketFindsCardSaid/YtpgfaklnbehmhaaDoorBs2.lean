/- Contracts of numbers, texts and truths as bytes: the document's own, and package bytes' texts and truths. -/
import Derived.Test.YtpgfaklnbehmhaaDoorBs
namespace Go.Proofs.YtpgfaklnbehmhaaDoor.Bs
open Go.RowKit St Go.Sort BsM
set_option linter.unusedVariables false

/-- one byte told as a text -/
theorem one_text (m : Nat) : ∃ E : ByteArray, (∀ w : World, (convert 57 9 (.slice (some ⟨w.heap.size, 0, none⟩) 1 1)).run Tryd.prog (w.alloc (.cells #[.int .u8 ((m : Int) % 256)] 5)) =
    .ok (.string E) (w.alloc (.cells #[.int .u8 ((m : Int) % 256)] 5))) ∧ Hid (E.data.toList = [UInt8.ofNat m]) ∧ E.size ≤ 1 := by
  refine ⟨⟨[UInt8.ofNat m].toArray⟩, fun w => ?_, rfl, Nat.le_refl _⟩
  have h := conv_new w [UInt8.ofNat m] 1
  have e : (cellsOf [UInt8.ofNat m]).toArray = #[.int .u8 ((m : Int) % 256)] := by simp [cellsOf, UInt8.toNat_ofNat']
  rw [e] at h
  exact h
theorem ret_list {a : ByteArray} {l : List UInt8} (h : a.data.toList = l) : Ending.returned (.string a) = .returned (.string ⟨l.toArray⟩) := by rw [str_of a l h]
theorem ret_none {l : List UInt8} (h : l = []) : Ending.returned (.string ⟨#[]⟩) = .returned (.string ⟨l.toArray⟩) := by rw [h]
theorem cat_list {D E : ByteArray} {a b c : List UInt8} (hD : D.data.toList = a) (hE : E.data.toList = b) (h : a ++ b = c) : (D ++ E).data.toList = c := by rw [← h, ← hD, ← hE]; simp
theorem str_cat {D E : ByteArray} {a b c : List UInt8} (hD : D.data.toList = a) (hE : E.data.toList = b) (h : a ++ b = c) : Value.string (D ++ E) = .string ⟨c.toArray⟩ := by
  have : (D ++ E).data.toList = c := by rw [← h, ← hD, ← hE]; simp
  rw [str_of _ _ this]

theorem rnum_no1 (n k : Int) (h : k < 1 ∨ 7 < k ∨ n < 0) (w : World) :
    Calls Tryd.prog 31 #[.int .i64 n, .int .i64 k] w fun e w' => e = .returned (.string ⟨#[]⟩) ∧ Kept w w' := by
  by_cases h1 : k < 1
  · clear h
    go_enter Tryd.func31, Tryd.ntmps31
    go_wp2_with fail
    go_ret
    exact ⟨rfl, Kept.refl _⟩
  · by_cases h2 : 7 < k
    · clear h
      go_enter Tryd.func31, Tryd.ntmps31
      go_wp2_with fail
      go_ret
      exact ⟨rfl, Kept.refl _⟩
    · have h3 : n < 0 := by omega
      clear h
      go_enter Tryd.func31, Tryd.ntmps31
      go_wp2_with fail
      go_ret
      exact ⟨rfl, Kept.refl _⟩

set_option maxHeartbeats 400000 in
theorem rnum_any' (n k : Nat) (h1 : 1 ≤ k) (h2 : k ≤ 7) (hn : n ≤ 9223372036854775807) (w : World) :
    Calls Tryd.prog 31 #[.int .i64 (n : Int), .int .i64 (k : Int)] w fun e w' => e = .returned (.string ⟨(numL n k).toArray⟩) ∧ Kept w w' := by
  go_enter Tryd.func31, Tryd.ntmps31
  go_wp2_with fail
  go_loopw [0, 5, 6] (fun v s i wr => ∃ q m : Nat, q ≤ k ∧ i = .int .i64 (q : Int) ∧ v = .int .i64 (m : Int) ∧ Hid (m = n / 256 ^ q) ∧ s = .string ⟨(be q n).toArray⟩ ∧ Kept w wr) (fun _ _ i _ => k - (intOf i).toNat)
  case atStart => exact ⟨0, n, Nat.zero_le _, rfl, rfl, by show _ = _; simp, rfl, Kept.refl _⟩
  case round =>
    obtain ⟨q, m, hqk, rfl, rfl, hm, rfl, hkept⟩ := hrel
    have hmn : m ≤ n := by rw [hm.out]; exact Nat.div_le_self _ _
    obtain ⟨D, hD⟩ : ∃ D : ByteArray, (⟨(be q n).toArray⟩ : ByteArray) = D := ⟨_, rfl⟩
    have hDl : Hid (D.data.toList = be q n) := by show _ = _; rw [← hD]
    have hDs : D.size ≤ 7 := by rw [← hD]; show (be q n).toArray.size ≤ 7; simp [be_len]; omega
    rw [hD]
    by_cases hlt : q < k
    · obtain ⟨E, hconv, hE, hEs⟩ := one_text m
      have hstr : ∀ v, v = Value.string (E ++ D) → v = .string ⟨(be (q + 1) n).toArray⟩ := fun v hv => by
        rw [hv]; exact str_cat hE.out hDl.out (by rw [be_succ, hm.out]; rfl)
      have HS := Lib.hid hstr
      have hm2 : Hid (m / 256 = n / 256 ^ (q + 1)) := by show _ = _; rw [hm.out, Nat.div_div_eq_div_mul, pow_succ']
      clear hstr hD
      go_wp2_with fail
      go_roundw
      case rel => exact ⟨q + 1, m / 256, by omega, by go_num, by go_num, hm2, HS.out _ rfl, hkept.alloc (by exact Below.size hkept) _⟩
      case measure => simp [intOf]; omega
    · obtain rfl : q = k := by omega
      have hok : numOk n q = decide (m = 0) := by simp [numOk, okw, hm.out]; omega
      by_cases h0 : m = 0
      · have hr : Hid (D = ⟨(numL n q).toArray⟩) := by
          show _ = _
          rw [num_yes (by rw [hok]; simpa using h0), ← hD]; rfl
        have h0' : (m : Int) ≤ 0 := by omega
        clear hok hD h0
        go_wp2_with fail
        go_ret
        exact ⟨ret_list (congrArg (fun x : ByteArray => x.data.toList) hr.out), hkept⟩
      · have hr : Hid (numL n q = []) := num_no (by rw [hok]; simpa using h0)
        have h0' : 0 < (m : Int) := by omega
        clear hok hD h0
        go_wp2_with fail
        go_ret
        exact ⟨ret_none hr.out, hkept⟩

theorem rnum_any (n k : Int) (hn : n ≤ 9223372036854775807) (w : World) :
    Calls Tryd.prog 31 #[.int .i64 n, .int .i64 k] w fun e w' => e = .returned (.string ⟨(numL n k).toArray⟩) ∧ Kept w w' := by
  by_cases h : k < 1 ∨ 7 < k ∨ n < 0
  · have := rnum_no1 n k h w
    rw [num_no (by simp [numOk, okw]; omega)]
    exact this
  · obtain ⟨m, rfl⟩ : ∃ m : Nat, n = m := ⟨n.toNat, by omega⟩
    obtain ⟨j, rfl⟩ : ∃ j : Nat, k = j := ⟨k.toNat, by omega⟩
    exact rnum_any' m j (by omega) (by omega) (by omega) w

theorem num_any (n k : Int) (w : World) :
    Calls Tryd.prog 46 #[.int .i64 n, .int .i64 k] w fun e w' => e = .returned (.string ⟨(numL n k).toArray⟩) ∧ Kept w w' := by
  by_cases h : numOk n k = true
  · obtain ⟨h1, h2, h3, h4⟩ := numOk_lt h
    obtain ⟨m, rfl⟩ : ∃ m : Nat, n = m := ⟨n.toNat, by omega⟩
    obtain ⟨j, rfl⟩ : ∃ j : Nat, k = j := ⟨k.toNat, by omega⟩
    rw [num_yes h]
    exact num_yes_any m j (by omega) (by omega) h4 w
  · have h' : numOk n k = false := by simpa using h
    rw [num_no h']
    exact (num_no_any n k h' w).mono fun _ _ ⟨he, hw⟩ => ⟨he, by subst hw; exact Kept.refl _⟩

theorem text_no {l : List UInt8} (h : 255 < l.length) : textL l = [] := by unfold textL; rw [if_neg (by omega)]
theorem text_yes {l : List UInt8} (h : l.length ≤ 255) : textL l = [UInt8.ofNat l.length] ++ l := by unfold textL; rw [if_pos h]; rfl

set_option maxHeartbeats 400000 in
theorem text_any (s : ByteArray) (w : World) :
    Calls Tryd.prog 48 #[.string s] w fun e w' => e = .returned (.string ⟨(textL s.data.toList).toArray⟩) ∧ Kept w w' := by
  have hl := Lib.hid (size_list s)
  by_cases h : 255 < s.size
  · have ht := Lib.hid (text_no (l := s.data.toList) (by rw [← hl.out]; exact h))
    go_enter Tryd.func48, Tryd.ntmps48
    go_wp2_with fail
    go_ret
    exact ⟨ret_none ht.out, Kept.refl _⟩
  · have ht := Lib.hid (text_yes (l := s.data.toList) (by rw [← hl.out]; omega))
    have hn := num_any (s.size : Int) 1 w
    obtain ⟨D, hD⟩ : ∃ D : ByteArray, (⟨(numL (s.size : Int) 1).toArray⟩ : ByteArray) = D := ⟨_, rfl⟩
    rw [hD] at hn
    have hDl : Hid (D.data.toList = [UInt8.ofNat s.data.toList.length]) := by show _ = _; rw [← hD, num_one _ (by omega), hl.out]
    have hDs : D.size ≤ 1 := by rw [size_list, hDl.out]; simp
    have HN := Lib.hid hn
    clear hD hn
    go_enter Tryd.func48, Tryd.ntmps48
    go_wp2_with (go_at_call 46; refine HN.out.mono ?_; rintro e w' ⟨rfl, hk⟩)
    go_ret
    exact ⟨ret_list (cat_list hDl.out rfl ht.out.symm), hk⟩

set_option maxHeartbeats 400000 in
theorem rtext_any (s : ByteArray) (w : World) :
    Calls Tryd.prog 33 #[.string s] w fun e w' => e = .returned (.string ⟨(textL s.data.toList).toArray⟩) ∧ Kept w w' := by
  have hl := Lib.hid (size_list s)
  by_cases h : 255 < s.size
  · have ht := Lib.hid (text_no (l := s.data.toList) (by rw [← hl.out]; exact h))
    go_enter Tryd.func33, Tryd.ntmps33
    go_wp2_with fail
    go_ret
    exact ⟨ret_none ht.out, Kept.refl _⟩
  · have ht := Lib.hid (text_yes (l := s.data.toList) (by rw [← hl.out]; omega))
    obtain ⟨D, hconv, hD, hDs⟩ := one_text s.size
    have hm : (s.size : Int) % 256 = s.size := by omega
    rw [hm] at hconv
    have hD2 : Hid (D.data.toList = [UInt8.ofNat s.data.toList.length]) := by show _ = _; rw [hD.out, hl.out]
    clear hm
    go_enter Tryd.func33, Tryd.ntmps33
    go_wp2_with fail
    go_ret
    exact ⟨ret_list (cat_list hD2.out rfl ht.out.symm), (Below.refl _ _).alloc (Nat.le_refl _) _⟩

theorem flag_any (b : Bool) (w : World) :
    Calls Tryd.prog 50 #[.bool b] w fun e w' => e = .returned (.string ⟨(flagL b).toArray⟩) ∧ Kept w w' := by
  cases b
  · have hn := num_any ((0 : Nat) : Int) 1 w
    rw [num_one _ (by decide)] at hn
    have HN := Lib.hid (show Calls Tryd.prog 46 #[.int .i64 0, .int .i64 1] w fun e w' => e = .returned (.string ⟨#[0]⟩) ∧ Kept w w' from hn)
    clear hn
    go_enter Tryd.func50, Tryd.ntmps50
    go_wp2_with (go_at_call 46; refine HN.out.mono ?_; rintro e w' ⟨rfl, hk⟩)
    go_ret
    exact ⟨rfl, hk⟩
  · have hn := num_any ((1 : Nat) : Int) 1 w
    rw [num_one _ (by decide)] at hn
    have HN := Lib.hid (show Calls Tryd.prog 46 #[.int .i64 1, .int .i64 1] w fun e w' => e = .returned (.string ⟨#[1]⟩) ∧ Kept w w' from hn)
    clear hn
    go_enter Tryd.func50, Tryd.ntmps50
    go_wp2_with (go_at_call 46; refine HN.out.mono ?_; rintro e w' ⟨rfl, hk⟩)
    go_ret
    exact ⟨rfl, hk⟩

end Go.Proofs.YtpgfaklnbehmhaaDoor.Bs
