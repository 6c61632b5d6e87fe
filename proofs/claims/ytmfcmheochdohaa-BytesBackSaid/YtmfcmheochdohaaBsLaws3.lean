/- The law of layer 4: what is told is read as it was, whatever stands behind. -/
import Derived.Test.YtmfcmheochdohaaBsLaws2
namespace Go.Proofs.Ytmfcmheochdohaa.Bs
open Go.RowKit St Go.Sort BsM
set_option linter.unusedVariables false

set_option maxHeartbeats 1000000 in
theorem back_any (n k : Int) (s : ByteArray) (q : Bool) (t : ByteArray) (hn : n ≤ 9223372036854775807) (w : World) :
    Calls Try.prog 5 #[.int .i64 n, .int .i64 k, .string s, .bool q, .string t] w fun e w' => e = .returned (.bool true) ∧ Below w.heap.size w w' := by
  have K0 : Kept w w := Kept.refl _
  have H0 := kept_of (W := w) awake_any
  have hnum := rnum_any n k hn
  by_cases hok : numOk n k = true
  · obtain ⟨D1, hD1⟩ : ∃ D : ByteArray, (⟨(numL n k).toArray⟩ : ByteArray) = D := ⟨_, rfl⟩
    have hD1l : D1.data.toList = numL n k := by rw [← hD1]
    have hD1s : D1.size = k.toNat := by rw [size_list, hD1l, num_len hok]
    have hk := numOk_lt hok
    have hD1u : D1.size ≤ 7 := by omega
    have hD1p : 0 < D1.size := by omega
    have hnum2 : ∀ x, Kept w x → Calls Try.prog 9 #[.int .i64 n, .int .i64 k] x fun e w' => e = .returned (.string D1) ∧ Kept w w' := fun x hx => by have := (kept_of (W := w) hnum).out x hx; rwa [hD1] at this
    have H1 := Lib.hid hnum2
    have hne : D1.toList.isEmpty = false := by
      rw [ByteArray.toList_eq, hD1l]
      have := num_len hok
      cases h : numL n k with
      | nil => rw [h] at this; simp at this; omega
      | cons => rfl
    by_cases hs : 255 < s.size
    · clear hD1 hD1l hD1s hk hnum hnum2 hok
      go_enter Try.func5, Try.ntmps5
      go_wp2_with (first
        | (go_at_call 9; refine (H1.out _ (by assumption)).mono ?_; rintro e w1 ⟨rfl, K1⟩)
        | (go_at_call 7; refine (H0.out _ (by assumption)).mono ?_; rintro e w1 ⟨rfl, K1⟩))
      go_ret
      exact ⟨rfl, K1⟩
    · by_cases ht : 2000 < t.size
      · clear hD1 hD1l hD1s hk hnum hnum2 hok
        go_enter Try.func5, Try.ntmps5
        go_wp2_with (first
          | (go_at_call 9; refine (H1.out _ (by assumption)).mono ?_; rintro e w1 ⟨rfl, K1⟩)
          | (go_at_call 7; refine (H0.out _ (by assumption)).mono ?_; rintro e w1 ⟨rfl, K1⟩))
        go_ret
        exact ⟨rfl, K1⟩
      · have hsl : s.data.toList.length ≤ 255 := by rw [← size_list]; omega
        obtain ⟨D2, hD2⟩ : ∃ D : ByteArray, (⟨(textL s.data.toList).toArray⟩ : ByteArray) = D := ⟨_, rfl⟩
        obtain ⟨D3, hD3⟩ : ∃ D : ByteArray, (⟨(flagL q).toArray⟩ : ByteArray) = D := ⟨_, rfl⟩
        have hD2u : D2.size ≤ 256 := by rw [size_list, ← hD2]; show (textL s.data.toList).length ≤ 256; unfold textL; rw [if_pos hsl]; simp; omega
        have hD3u : D3.size ≤ 1 := by rw [size_list, ← hD3]; cases q <;> exact Nat.le_refl _
        have m1 : Hid (∀ x, Kept w x → Calls Try.prog 8 #[.int .i64 n, .int .i64 k] x fun e w' => e = .returned (.string D1) ∧ Kept w w') := by rw [← hD1]; exact kept_of (num_any n k)
        have m2 : Hid (∀ x, Kept w x → Calls Try.prog 10 #[.string s] x fun e w' => e = .returned (.string D2) ∧ Kept w w') := by rw [← hD2]; exact kept_of (text_any s)
        have m3 : Hid (∀ x, Kept w x → Calls Try.prog 12 #[.bool q] x fun e w' => e = .returned (.string D3) ∧ Kept w w') := by rw [← hD3]; exact kept_of (flag_any q)
        have hU : (D1 ++ D2 ++ D3 ++ t).data.toList = numL n k ++ (textL s.data.toList ++ (flagL q ++ t.data.toList)) := by
          rw [← hD1, ← hD2, ← hD3]; simp
        have o1 : Hid (∀ x, Kept w x → Calls Try.prog 13 #[.string (D1 ++ D2 ++ D3 ++ t)] x fun e w' => ∃ b, e = .returned (.pointer (some ⟨b, 0, none⟩)) ∧ At1 w b (numL n k ++ (textL s.data.toList ++ (flagL q ++ t.data.toList)), 0) w') := by
          rw [← hU]; exact at1_open _
        have r1 := num_of hok (textL s.data.toList ++ (flagL q ++ t.data.toList)) 0
        have r2 := text_of hsl (flagL q ++ t.data.toList) 0
        have r3 := flag_of q t.data.toList 0
        have h1 : ∀ b, Hid (∀ x, At1 w b (numL n k ++ (textL s.data.toList ++ (flagL q ++ t.data.toList)), 0) x → Calls Try.prog 19 #[.pointer (some ⟨b, 0, none⟩), .int .i64 k] x fun e w' => e = .returned (.int .i64 n) ∧ At1 w b (textL s.data.toList ++ (flagL q ++ t.data.toList), 0) w') := fun b => at1_does fun x h => by
          have := rdnum_any b _ k x h; rw [r1.1, r1.2] at this; exact this
        have h2 : ∀ b, Hid (∀ x, At1 w b (textL s.data.toList ++ (flagL q ++ t.data.toList), 0) x → Calls Try.prog 20 #[.pointer (some ⟨b, 0, none⟩)] x fun e w' => e = .returned (.string s) ∧ At1 w b (flagL q ++ t.data.toList, 0) w') := fun b => at1_does fun x h => by
          have := rdtext_any b _ x h; rw [r2.1, r2.2, ← str_of s _ rfl] at this; exact this
        have h3 : ∀ b, Hid (∀ x, At1 w b (flagL q ++ t.data.toList, 0) x → Calls Try.prog 21 #[.pointer (some ⟨b, 0, none⟩)] x fun e w' => e = .returned (.bool q) ∧ At1 w b (t.data.toList, 0) w') := fun b => at1_does fun x h => by
          have := rdflag_any b _ x h; rw [r3.1, r3.2] at this; exact this
        have h4 : ∀ b, Hid (∀ x, At1 w b (t.data.toList, 0) x → Calls Try.prog 15 #[.pointer (some ⟨b, 0, none⟩)] x fun e w' => e = .returned (.int .i64 (t.size : Int)) ∧ At1 w b (t.data.toList, 0) w') := fun b => at1_read fun x h => by
          have := left_any b _ x h; rw [← size_list] at this; exact this
        have h5 : ∀ b, Hid (∀ x, At1 w b (t.data.toList, 0) x → Calls Try.prog 17 #[.pointer (some ⟨b, 0, none⟩)] x fun e w' => e = .returned (.int .i64 (endV (t.data.toList, 0))) ∧ At1 w b (endS (t.data.toList, 0)) w') := fun b => at1_does fun x => end_any b _ x
        have n7 : ∀ b x, Hid (∀ y, At1 w b x y → Calls Try.prog 7 #[] y fun e w' => e = .returned (.bool true) ∧ At1 w b x w') := fun b x => at1_kept awake_any
        by_cases hz : t.size = 0
        · have hE := (end_bad (s := (t.data.toList, 0)) (List.length_eq_zero_iff.mp (by show t.data.toList.length = 0; rw [← size_list]; exact hz))).1
          rw [hE] at h5
          have hte : t.toList = [] := by rw [ByteArray.toList_eq]; exact List.length_eq_zero_iff.mp (by rw [← size_list]; exact hz)
          have hte2 : t.toList.isEmpty = true := by rw [hte]; rfl
          clear hD1 hD1l hD1s hk hnum hnum2 hok r1 r2 r3 hU hD2 hD3 hsl hE hz
          go_enter Try.func5, Try.ntmps5
          go_wp2_with (first
            | (go_at_call 9; refine (H1.out _ (by assumption)).mono ?_; rintro e w1 ⟨rfl, K1⟩)
            | (go_at_call 8; refine (m1.out _ (by assumption)).mono ?_; rintro e w1 ⟨rfl, K1⟩)
            | (go_at_call 10; refine (m2.out _ (by assumption)).mono ?_; rintro e w1 ⟨rfl, K1⟩)
            | (go_at_call 12; refine (m3.out _ (by assumption)).mono ?_; rintro e w1 ⟨rfl, K1⟩)
            | (go_at_call 13; refine (o1.out _ (by assumption)).mono ?_; rintro e w2 ⟨b, rfl, A2⟩)
            | (go_at_call 19; refine ((h1 _).out _ (by assumption)).mono ?_; rintro e w2 ⟨rfl, A2⟩)
            | (go_at_call 20; refine ((h2 _).out _ (by assumption)).mono ?_; rintro e w2 ⟨rfl, A2⟩)
            | (go_at_call 21; refine ((h3 _).out _ (by assumption)).mono ?_; rintro e w2 ⟨rfl, A2⟩)
            | (go_at_call 15; refine ((h4 _).out _ (by assumption)).mono ?_; rintro e w2 ⟨rfl, A2⟩)
            | (go_at_call 17; refine ((h5 _).out _ (by assumption)).mono ?_; rintro e w2 ⟨rfl, A2⟩)
            | (go_at_call 7; refine ((n7 _ _).out _ (by assumption)).mono ?_; rintro e w2 ⟨rfl, A2⟩))
          go_ret
          exact ⟨rfl, A2.1⟩
        · have hz1 : 0 < t.data.toList.length := by rw [← size_list]; omega
          have hE := (end_left (s := (t.data.toList, 0)) hz1 rfl).1
          rw [hE] at h5
          have hte2 : t.toList.isEmpty = false := by
            rw [ByteArray.toList_eq]
            cases h : t.data.toList with
            | nil => rw [h] at hz1; simp at hz1
            | cons => rfl
          clear hD1 hD1l hD1s hk hnum hnum2 hok r1 r2 r3 hU hD2 hD3 hsl hE hz hz1
          go_enter Try.func5, Try.ntmps5
          go_wp2_with (first
            | (go_at_call 9; refine (H1.out _ (by assumption)).mono ?_; rintro e w1 ⟨rfl, K1⟩)
            | (go_at_call 8; refine (m1.out _ (by assumption)).mono ?_; rintro e w1 ⟨rfl, K1⟩)
            | (go_at_call 10; refine (m2.out _ (by assumption)).mono ?_; rintro e w1 ⟨rfl, K1⟩)
            | (go_at_call 12; refine (m3.out _ (by assumption)).mono ?_; rintro e w1 ⟨rfl, K1⟩)
            | (go_at_call 13; refine (o1.out _ (by assumption)).mono ?_; rintro e w2 ⟨b, rfl, A2⟩)
            | (go_at_call 19; refine ((h1 _).out _ (by assumption)).mono ?_; rintro e w2 ⟨rfl, A2⟩)
            | (go_at_call 20; refine ((h2 _).out _ (by assumption)).mono ?_; rintro e w2 ⟨rfl, A2⟩)
            | (go_at_call 21; refine ((h3 _).out _ (by assumption)).mono ?_; rintro e w2 ⟨rfl, A2⟩)
            | (go_at_call 15; refine ((h4 _).out _ (by assumption)).mono ?_; rintro e w2 ⟨rfl, A2⟩)
            | (go_at_call 17; refine ((h5 _).out _ (by assumption)).mono ?_; rintro e w2 ⟨rfl, A2⟩)
            | (go_at_call 7; refine ((n7 _ _).out _ (by assumption)).mono ?_; rintro e w2 ⟨rfl, A2⟩))
          go_ret
          exact ⟨rfl, A2.1⟩
  · have hno : numOk n k = false := by simpa using hok
    rw [num_no hno] at hnum
    have H1 := kept_of (W := w) hnum
    clear hno hok hnum
    go_enter Try.func5, Try.ntmps5
    go_wp2_with (first
      | (go_at_call 9; refine (H1.out _ (by assumption)).mono ?_; rintro e w1 ⟨rfl, K1⟩)
      | (go_at_call 7; refine (H0.out _ (by assumption)).mono ?_; rintro e w1 ⟨rfl, K1⟩))
    go_ret
    exact ⟨rfl, K1⟩

end Go.Proofs.Ytmfcmheochdohaa.Bs
