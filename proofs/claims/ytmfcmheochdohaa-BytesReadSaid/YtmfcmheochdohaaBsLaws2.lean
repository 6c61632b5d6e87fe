/- The laws of layer 4, on: what is told is read as it was; what is read is told as just these bytes. -/
import Derived.Test.YtmfcmheochdohaaBsLaws
namespace Go.Proofs.Ytmfcmheochdohaa.Bs
open Go.RowKit St Go.Sort BsM
set_option linter.unusedVariables false

theorem at1_fail_nil {W : World} {b : Nat} {s : S} (x : Int) :
    Hid (∀ w, At1 W b s w → Calls Try.prog 22 #[.pointer none, .int .i64 x] w fun e w' => e = .returned (.tuple #[]) ∧ At1 W b s w') := at1_same (fail_nil x)

/-- the text's beginning, cut off, is what was told -/
theorem cut_head {s U : ByteArray} {r : List UInt8} (h : U.data.toList ++ r = s.data.toList) :
    U.size ≤ s.size ∧ s.size = U.size + r.length ∧ ∀ w, (Instr.slice 9 (.string s) none (some (.int .i64 (U.size : Int))) none).run Try.prog w = .ok (.string U) w := by
  have hl : s.size = U.size + r.length := by rw [size_list s, size_list U, ← h, List.length_append]
  have hle : U.size ≤ s.size := by omega
  obtain ⟨E, F, hE, _, hEl, _⟩ := cut_two s U.size hle
  have e : E = U := by
    have : E.data.toList = U.data.toList := by rw [hEl.out, ← h, size_list]; simp
    rw [str_of _ _ this]
  subst e
  exact ⟨hle, hl, hE⟩

set_option maxHeartbeats 1000000 in
theorem once_any (s : ByteArray) (k : Int) (w : World) :
    Calls Try.prog 6 #[.string s, .int .i64 k] w fun e w' => e = .returned (.bool true) ∧ Below w.heap.size w w' := by
  have K0 : Kept w w := Kept.refl _
  by_cases hb : 2000 < s.size
  · have H0 := kept_of (W := w) awake_any
    go_enter Try.func6, Try.ntmps6
    go_wp2_with (go_at_call 7; refine (H0.out _ (by assumption)).mono ?_; rintro e w1 ⟨rfl, K1⟩)
    go_ret
    exact ⟨rfl, K1⟩
  · have H2 := at1_open (W := w) s
    obtain ⟨s1, hs1⟩ : ∃ s1, numS (s.data.toList, 0) k = s1 := ⟨_, rfl⟩
    obtain ⟨n, hn⟩ : ∃ n : Nat, numV (s.data.toList, 0) k = n := ⟨_, rfl⟩
    obtain ⟨s2, hs2⟩ : ∃ s2, textS s1 = s2 := ⟨_, rfl⟩
    obtain ⟨t, ht⟩ : ∃ t, textV s1 = t := ⟨_, rfl⟩
    obtain ⟨s3, hs3⟩ : ∃ s3, flagS s2 = s3 := ⟨_, rfl⟩
    obtain ⟨q, hq⟩ : ∃ q, flagV s2 = q := ⟨_, rfl⟩
    have h1 : ∀ b, Hid (∀ x, At1 w b (s.data.toList, 0) x → Calls Try.prog 19 #[.pointer (some ⟨b, 0, none⟩), .int .i64 k] x fun e w' => e = .returned (.int .i64 (n : Int)) ∧ At1 w b s1 w') := fun b => by rw [← hn, ← hs1]; exact at1_does fun x => rdnum_any b _ k x
    have h2 : ∀ b, Hid (∀ x, At1 w b s1 x → Calls Try.prog 20 #[.pointer (some ⟨b, 0, none⟩)] x fun e w' => e = .returned (.string ⟨t.toArray⟩) ∧ At1 w b s2 w') := fun b => by rw [← ht, ← hs2]; exact at1_does fun x => rdtext_any b _ x
    have h3 : ∀ b, Hid (∀ x, At1 w b s2 x → Calls Try.prog 21 #[.pointer (some ⟨b, 0, none⟩)] x fun e w' => e = .returned (.bool q) ∧ At1 w b s3 w') := fun b => by rw [← hq, ← hs3]; exact at1_does fun x => rdflag_any b _ x
    have h4 : ∀ b, Hid (∀ x, At1 w b s3 x → Calls Try.prog 15 #[.pointer (some ⟨b, 0, none⟩)] x fun e w' => e = .returned (.int .i64 (s3.1.length : Int)) ∧ At1 w b s3 w') := fun b => at1_read fun x => left_any b _ x
    have h5 : ∀ b, Hid (∀ x, At1 w b s3 x → Calls Try.prog 17 #[.pointer (some ⟨b, 0, none⟩)] x fun e w' => e = .returned (.int .i64 (endV s3)) ∧ At1 w b (endS s3) w') := fun b => at1_does fun x => end_any b _ x
    have hback := fun h => all_back (l := s.data.toList) (k := k) h
    have hgood := fun h => all_good (l := s.data.toList) (k := k) h
    rw [hs1, hs2, hs3, hn, ht, hq] at hback
    rw [hs1, hs2, hs3] at hgood
    obtain ⟨T, hT⟩ : ∃ T : ByteArray, (⟨t.toArray⟩ : ByteArray) = T := ⟨_, rfl⟩
    have hTl : T.data.toList = t := by rw [← hT]
    rw [hT] at h2
    clear hs1 hn hs2 ht hs3 hq hT
    -- the calls behind
    have n1 : ∀ b x, Hid (∀ y, At1 w b x y → Calls Try.prog 22 #[.pointer none, .int .i64 5] y fun e w' => e = .returned (.tuple #[]) ∧ At1 w b x w') := fun b x => at1_same (fail_nil 5)
    have n2 : ∀ b x, Hid (∀ y, At1 w b x y → Calls Try.prog 19 #[.pointer none, .int .i64 k] y fun e w' => e = .returned (.int .i64 0) ∧ At1 w b x w') := fun b x => at1_same (rdnum_nil k)
    have n3 : ∀ b x, Hid (∀ y, At1 w b x y → Calls Try.prog 20 #[.pointer none] y fun e w' => e = .returned (.string ⟨#[]⟩) ∧ At1 w b x w') := fun b x => at1_same rdtext_nil
    have n4 : ∀ b x, Hid (∀ y, At1 w b x y → Calls Try.prog 21 #[.pointer none] y fun e w' => e = .returned (.bool false) ∧ At1 w b x w') := fun b x => at1_same rdflag_nil
    have n5 : ∀ b x, Hid (∀ y, At1 w b x y → Calls Try.prog 15 #[.pointer none] y fun e w' => e = .returned (.int .i64 0) ∧ At1 w b x w') := fun b x => at1_same left_nil
    have n6 : ∀ b x, Hid (∀ y, At1 w b x y → Calls Try.prog 17 #[.pointer none] y fun e w' => e = .returned (.int .i64 1) ∧ At1 w b x w') := fun b x => at1_same end_nil
    have n7 : ∀ b x, Hid (∀ y, At1 w b x y → Calls Try.prog 7 #[] y fun e w' => e = .returned (.bool true) ∧ At1 w b x w') := fun b x => at1_kept awake_any
    by_cases h0 : s3.2 = 0
    · have hB := hback h0
      obtain ⟨D1, hD1⟩ : ∃ D : ByteArray, (⟨(numL (n : Int) k).toArray⟩ : ByteArray) = D := ⟨_, rfl⟩
      obtain ⟨D2, hD2⟩ : ∃ D : ByteArray, (⟨(textL t).toArray⟩ : ByteArray) = D := ⟨_, rfl⟩
      obtain ⟨D3, hD3⟩ : ∃ D : ByteArray, (⟨(flagL q).toArray⟩ : ByteArray) = D := ⟨_, rfl⟩
      have m1 : ∀ b x, Hid (∀ y, At1 w b x y → Calls Try.prog 8 #[.int .i64 (n : Int), .int .i64 k] y fun e w' => e = .returned (.string D1) ∧ At1 w b x w') := fun b x => by rw [← hD1]; exact at1_kept (num_any n k)
      have m2 : ∀ b x, Hid (∀ y, At1 w b x y → Calls Try.prog 10 #[.string T] y fun e w' => e = .returned (.string D2) ∧ At1 w b x w') := fun b x => by rw [← hD2, ← hTl]; exact at1_kept (text_any T)
      have m3 : ∀ b x, Hid (∀ y, At1 w b x y → Calls Try.prog 12 #[.bool q] y fun e w' => e = .returned (.string D3) ∧ At1 w b x w') := fun b x => by rw [← hD3]; exact at1_kept (flag_any q)
      have hU : (D1 ++ D2 ++ D3).data.toList ++ s3.1 = s.data.toList := by
        rw [← hB, ← hD1, ← hD2, ← hD3]; simp
      obtain ⟨hle, hsz, hcut⟩ := cut_head (s := s) hU
      have hs3 : (D1 ++ D2 ++ D3).size = D1.size + D2.size + D3.size := by simp [ByteArray.size_append]
      have hcut2 : ∀ w, (Instr.slice 9 (.string s) none (some (.int .i64 ((D1.size : Int) + (D2.size : Int) + (D3.size : Int)))) none).run Try.prog w = .ok (.string (D1 ++ D2 ++ D3)) w := by
        intro w; have := hcut w; rw [hs3] at this; rw [show (D1.size : Int) + (D2.size : Int) + (D3.size : Int) = ((D1.size + D2.size + D3.size : Nat) : Int) by omega]; exact this
      have hb1 : D1.size ≤ 2000 := by omega
      have hb2 : D2.size ≤ 2000 := by omega
      have hb3 : D3.size ≤ 2000 := by omega
      by_cases hlen : s3.1.length = 0
      · have hE := (end_bad (List.length_eq_zero_iff.mp hlen)).1
        rw [h0] at hE
        rw [hE] at h5
        rw [hlen] at h4
        have hsz2 : (s.size : Int) = (D1.size : Int) + (D2.size : Int) + (D3.size : Int) := by omega
        clear hback hgood hB hD1 hD2 hD3 hTl hU hE h0 hcut hsz hs3 hle
        go_enter Try.func6, Try.ntmps6
        go_wp2_with (first
          | (go_at_call 13; refine (H2.out _ (by assumption)).mono ?_; rintro e w2 ⟨b, rfl, A2⟩)
          | (go_at_call 19; first | ((with_reducible refine ((h1 _).out _ (by assumption)).mono ?_); rintro e w2 ⟨rfl, A2⟩) | ((with_reducible refine ((n2 _ _).out _ (by assumption)).mono ?_); rintro e w2 ⟨rfl, A2⟩))
          | (go_at_call 20; first | ((with_reducible refine ((h2 _).out _ (by assumption)).mono ?_); rintro e w2 ⟨rfl, A2⟩) | ((with_reducible refine ((n3 _ _).out _ (by assumption)).mono ?_); rintro e w2 ⟨rfl, A2⟩))
          | (go_at_call 21; first | ((with_reducible refine ((h3 _).out _ (by assumption)).mono ?_); rintro e w2 ⟨rfl, A2⟩) | ((with_reducible refine ((n4 _ _).out _ (by assumption)).mono ?_); rintro e w2 ⟨rfl, A2⟩))
          | (go_at_call 15; first | ((with_reducible refine ((h4 _).out _ (by assumption)).mono ?_); rintro e w2 ⟨rfl, A2⟩) | ((with_reducible refine ((n5 _ _).out _ (by assumption)).mono ?_); rintro e w2 ⟨rfl, A2⟩))
          | (go_at_call 17; first | ((with_reducible refine ((h5 _).out _ (by assumption)).mono ?_); rintro e w2 ⟨rfl, A2⟩) | ((with_reducible refine ((n6 _ _).out _ (by assumption)).mono ?_); rintro e w2 ⟨rfl, A2⟩))
          | (go_at_call 22; refine ((n1 _ _).out _ (by assumption)).mono ?_; rintro e w2 ⟨rfl, A2⟩)
          | (go_at_call 8; refine ((m1 _ _).out _ (by assumption)).mono ?_; rintro e w2 ⟨rfl, A2⟩)
          | (go_at_call 10; refine ((m2 _ _).out _ (by assumption)).mono ?_; rintro e w2 ⟨rfl, A2⟩)
          | (go_at_call 12; refine ((m3 _ _).out _ (by assumption)).mono ?_; rintro e w2 ⟨rfl, A2⟩)
          | (go_at_call 7; refine ((n7 _ _).out _ (by assumption)).mono ?_; rintro e w2 ⟨rfl, A2⟩))
        go_ret
        exact ⟨rfl, A2.1⟩
      · have hlen2 : 0 < s3.1.length := by omega
        have hE := (end_left hlen2 h0).1
        rw [hE] at h5
        obtain ⟨L, hL⟩ : ∃ L : Int, (s3.1.length : Int) = L := ⟨_, rfl⟩
        rw [hL] at h4
        have hL0 : 0 < L := by omega
        have hsz2 : (s.size : Int) = (D1.size : Int) + (D2.size : Int) + (D3.size : Int) + L := by omega
        clear hback hgood hB hD1 hD2 hD3 hTl hU hE h0 hcut hsz hs3 hle hlen hlen2 hL
        go_enter Try.func6, Try.ntmps6
        go_wp2_with (first
          | (go_at_call 13; refine (H2.out _ (by assumption)).mono ?_; rintro e w2 ⟨b, rfl, A2⟩)
          | (go_at_call 19; first | ((with_reducible refine ((h1 _).out _ (by assumption)).mono ?_); rintro e w2 ⟨rfl, A2⟩) | ((with_reducible refine ((n2 _ _).out _ (by assumption)).mono ?_); rintro e w2 ⟨rfl, A2⟩))
          | (go_at_call 20; first | ((with_reducible refine ((h2 _).out _ (by assumption)).mono ?_); rintro e w2 ⟨rfl, A2⟩) | ((with_reducible refine ((n3 _ _).out _ (by assumption)).mono ?_); rintro e w2 ⟨rfl, A2⟩))
          | (go_at_call 21; first | ((with_reducible refine ((h3 _).out _ (by assumption)).mono ?_); rintro e w2 ⟨rfl, A2⟩) | ((with_reducible refine ((n4 _ _).out _ (by assumption)).mono ?_); rintro e w2 ⟨rfl, A2⟩))
          | (go_at_call 15; first | ((with_reducible refine ((h4 _).out _ (by assumption)).mono ?_); rintro e w2 ⟨rfl, A2⟩) | ((with_reducible refine ((n5 _ _).out _ (by assumption)).mono ?_); rintro e w2 ⟨rfl, A2⟩))
          | (go_at_call 17; first | ((with_reducible refine ((h5 _).out _ (by assumption)).mono ?_); rintro e w2 ⟨rfl, A2⟩) | ((with_reducible refine ((n6 _ _).out _ (by assumption)).mono ?_); rintro e w2 ⟨rfl, A2⟩))
          | (go_at_call 22; refine ((n1 _ _).out _ (by assumption)).mono ?_; rintro e w2 ⟨rfl, A2⟩)
          | (go_at_call 8; refine ((m1 _ _).out _ (by assumption)).mono ?_; rintro e w2 ⟨rfl, A2⟩)
          | (go_at_call 10; refine ((m2 _ _).out _ (by assumption)).mono ?_; rintro e w2 ⟨rfl, A2⟩)
          | (go_at_call 12; refine ((m3 _ _).out _ (by assumption)).mono ?_; rintro e w2 ⟨rfl, A2⟩)
          | (go_at_call 7; refine ((n7 _ _).out _ (by assumption)).mono ?_; rintro e w2 ⟨rfl, A2⟩))
        go_ret
        exact ⟨rfl, A2.1⟩
    · have hg := hgood h0
      have hE := (end_bad hg).1
      have hg2 : s3.1.length = 0 := by rw [hg]; rfl
      obtain ⟨z, hz⟩ : ∃ z, s3.2 = z := ⟨_, rfl⟩
      rw [hE, hz] at h5
      rw [hg2] at h4
      have hz0 : (z == 0) = false := by rw [← hz]; simpa using h0
      rw [hz] at h0
      clear hback hgood hTl hE hg hg2 hz
      by_cases hz5 : z = 5
      · subst hz5
        clear h0 hz0
        go_enter Try.func6, Try.ntmps6
        go_wp2_with (first
          | (go_at_call 13; refine (H2.out _ (by assumption)).mono ?_; rintro e w2 ⟨b, rfl, A2⟩)
          | (go_at_call 19; first | ((with_reducible refine ((h1 _).out _ (by assumption)).mono ?_); rintro e w2 ⟨rfl, A2⟩) | ((with_reducible refine ((n2 _ _).out _ (by assumption)).mono ?_); rintro e w2 ⟨rfl, A2⟩))
          | (go_at_call 20; first | ((with_reducible refine ((h2 _).out _ (by assumption)).mono ?_); rintro e w2 ⟨rfl, A2⟩) | ((with_reducible refine ((n3 _ _).out _ (by assumption)).mono ?_); rintro e w2 ⟨rfl, A2⟩))
          | (go_at_call 21; first | ((with_reducible refine ((h3 _).out _ (by assumption)).mono ?_); rintro e w2 ⟨rfl, A2⟩) | ((with_reducible refine ((n4 _ _).out _ (by assumption)).mono ?_); rintro e w2 ⟨rfl, A2⟩))
          | (go_at_call 15; first | ((with_reducible refine ((h4 _).out _ (by assumption)).mono ?_); rintro e w2 ⟨rfl, A2⟩) | ((with_reducible refine ((n5 _ _).out _ (by assumption)).mono ?_); rintro e w2 ⟨rfl, A2⟩))
          | (go_at_call 17; first | ((with_reducible refine ((h5 _).out _ (by assumption)).mono ?_); rintro e w2 ⟨rfl, A2⟩) | ((with_reducible refine ((n6 _ _).out _ (by assumption)).mono ?_); rintro e w2 ⟨rfl, A2⟩))
          | (go_at_call 22; refine ((n1 _ _).out _ (by assumption)).mono ?_; rintro e w2 ⟨rfl, A2⟩)
          | (go_at_call 7; refine ((n7 _ _).out _ (by assumption)).mono ?_; rintro e w2 ⟨rfl, A2⟩))
        go_ret
        exact ⟨rfl, A2.1⟩
      · have hz5' : (z == 5) = false := by simpa using hz5
        clear h0 hz5
        go_enter Try.func6, Try.ntmps6
        go_wp2_with (first
          | (go_at_call 13; refine (H2.out _ (by assumption)).mono ?_; rintro e w2 ⟨b, rfl, A2⟩)
          | (go_at_call 19; first | ((with_reducible refine ((h1 _).out _ (by assumption)).mono ?_); rintro e w2 ⟨rfl, A2⟩) | ((with_reducible refine ((n2 _ _).out _ (by assumption)).mono ?_); rintro e w2 ⟨rfl, A2⟩))
          | (go_at_call 20; first | ((with_reducible refine ((h2 _).out _ (by assumption)).mono ?_); rintro e w2 ⟨rfl, A2⟩) | ((with_reducible refine ((n3 _ _).out _ (by assumption)).mono ?_); rintro e w2 ⟨rfl, A2⟩))
          | (go_at_call 21; first | ((with_reducible refine ((h3 _).out _ (by assumption)).mono ?_); rintro e w2 ⟨rfl, A2⟩) | ((with_reducible refine ((n4 _ _).out _ (by assumption)).mono ?_); rintro e w2 ⟨rfl, A2⟩))
          | (go_at_call 15; first | ((with_reducible refine ((h4 _).out _ (by assumption)).mono ?_); rintro e w2 ⟨rfl, A2⟩) | ((with_reducible refine ((n5 _ _).out _ (by assumption)).mono ?_); rintro e w2 ⟨rfl, A2⟩))
          | (go_at_call 17; first | ((with_reducible refine ((h5 _).out _ (by assumption)).mono ?_); rintro e w2 ⟨rfl, A2⟩) | ((with_reducible refine ((n6 _ _).out _ (by assumption)).mono ?_); rintro e w2 ⟨rfl, A2⟩))
          | (go_at_call 22; refine ((n1 _ _).out _ (by assumption)).mono ?_; rintro e w2 ⟨rfl, A2⟩)
          | (go_at_call 7; refine ((n7 _ _).out _ (by assumption)).mono ?_; rintro e w2 ⟨rfl, A2⟩))
        go_ret
        exact ⟨rfl, A2.1⟩

end Go.Proofs.Ytmfcmheochdohaa.Bs
