/- Contracts of the document's own reader: texts, truths, what is left, its end. -/
import Derived.Test.YtmfcmheochdohaaBs5
import Derived.Laws.DeepStrings4
namespace Go.Proofs.Ytmfcmheochdohaa.Bs
open Go.RowKit St Go.Sort BsM
set_option linter.unusedVariables false

theorem fits_num {T : List UInt8} {p : Nat} {s : S} {k : Int} (h : Fits T p s) (hb : (numS s k).2 ≠ 0) : numV s k = 0 := by
  by_cases h0 : s.2 = 0
  · by_cases hk : okw k = true
    · have h1 := numS_yes (s := s) hk
      by_cases hl : k.toNat ≤ s.1.length
      · have h2 := take_yes (s := s) hl
        rw [h1.2, h2.2] at hb; exact absurd h0 hb
      · have h2 := take_no (s := s) (n := k.toNat) (by omega)
        rw [h1.1, h2.1]; rfl
    · exact (numS_no (by simpa using hk)).1
  · exact (num_bad (h.bad h0) h0).1
theorem take_zero {s : S} : takeV s 0 = [] ∧ takeS s 0 = s := by
  have := take_yes (s := s) (n := 0) (Nat.zero_le _)
  simpa using this

/-- a text's piece -/
theorem cut_mid (T : ByteArray) (p n : Nat) (h : p + n ≤ T.size) : ∃ E : ByteArray, (∀ w, (Instr.slice 9 (.string T) (some (.int .i64 (p : Int))) (some (.int .i64 ((p : Int) + (n : Int)))) none).run Try.prog w = .ok (.string E) w) ∧
    Hid (E.data.toList = (T.data.toList.drop p).take n) := by
  refine ⟨T.extract p (p + n), fun w => ?_, ?_⟩
  · rw [run_slice_string_if w 9 T .i64 .i64 _ _ Try.underlying9, if_pos ⟨by omega, by omega⟩, if_pos ⟨by omega, by omega⟩]
    rw [show ((p : Int) + (n : Int)).toNat = p + n by omega]; rfl
  · show _ = _; rw [extract_list, List.drop_take]; congr 1; omega

set_option maxHeartbeats 800000 in
theorem xtext_any (b : Nat) (T : ByteArray) (s : S) (hT : T.size ≤ 5000) (w : World) (hr : Xd w b T s) :
    Calls Try.prog 25 #[.pointer (some ⟨b, 0, none⟩)] w (XDoes b T w (.string ⟨(textV s).toArray⟩) (textS s)) := by
  have h1 := xnum_any b T s 1 hT w hr
  obtain ⟨p0, hp0, _⟩ := hr
  have hn := numV_one_lt s
  by_cases hb : (numS s 1).2 = 0
  · obtain ⟨n, hnn⟩ : ∃ n, numV s 1 = n := ⟨_, rfl⟩
    have hS : textV s = takeV (numS s 1) n ∧ textS s = takeS (numS s 1) n := by rw [← hnn]; exact ⟨rfl, rfl⟩
    rw [hnn] at h1 hn
    obtain ⟨s1, hs1⟩ : ∃ s1, numS s 1 = s1 := ⟨_, rfl⟩
    rw [hs1] at h1 hb hS
    clear hs1 hnn hp0
    by_cases hl : n ≤ s1.1.length
    · have hT2 := take_yes (s := s1) hl
      rw [hT2.1, hT2.2] at hS
      have HS := Lib.hid hS
      have H1 := Lib.hid h1
      have HB := Lib.hid hb
      have HL := Lib.hid hl
      clear hS h1 hT2 hl
      go_enter Try.func25, Try.ntmps25
      go_wp2_with (go_at_call 24; refine H1.out.mono ?_; rintro e w1 ⟨rfl, hx, ho⟩)
      obtain ⟨p, hp, hblk0⟩ := hx
      rw [hb] at hblk0
      have hblk := Lib.hid hblk0
      clear hblk0 hb
      obtain ⟨hc0, hc1, hc2, hf1⟩ := xcells hblk.out
      have hlen := hp.len HB.out
      have hTl := size_list T
      have hpn : p + n ≤ T.size := by have := HL.out; omega
      have hpn1 : p ≤ T.size := by omega
      have hM := Lib.hid (fits_move hp HB.out HL.out)
      obtain ⟨E, hcut, hE⟩ := cut_mid T p n hpn
      have hEl : Hid (E.data.toList = s1.1.take n) := by show _ = _; rw [hE.out, (hp.1 HB.out).2]
      have hcmp : decide ((T.size : Int) - (p : Int) < (n : Int)) = false := by simp; omega
      have hw1 : IntKind.i64.wrap ((T.size : Int) - (p : Int)) = (T.size : Int) - (p : Int) := IntWalk.i64_in _ (by omega)
      have hw2 : IntKind.i64.wrap ((p : Int) + (n : Int)) = (p : Int) + (n : Int) := IntWalk.i64_in _ (by omega)
      have e : Hid (((p + n : Nat) : Int) = (p : Int) + (n : Int)) := by show _ = _; omega
      clear hlen hTl hp
      go_wp2_with fail
      go_quiet (fail)
      go_wp2_with fail
      go_quiet (fail)
      clear hw1 hw2
      go_wp2_with fail
      go_ret
      exact ⟨ret_list (by rw [hEl.out, HS.out.1]), by rw [HS.out.2]; exact ⟨p + n, hM.out, by rw [e.out, show (s1.1.drop n, s1.2).2 = 0 from HB.out]; exact blk_set (w := w1.drewN _) hblk.out 1 _⟩, (ho.drewN _).set _ _⟩
    · have hT2 := take_no (s := s1) (n := n) (by omega)
      rw [fail_yes hb (by decide)] at hT2
      rw [hT2.1, hT2.2] at hS
      have HS := Lib.hid hS
      have H1 := Lib.hid h1
      have HB := Lib.hid hb
      have HL := Lib.hid hl
      clear hS h1 hT2 hl
      go_enter Try.func25, Try.ntmps25
      go_wp2_with (go_at_call 24; refine H1.out.mono ?_; rintro e w1 ⟨rfl, hx, ho⟩)
      obtain ⟨p, hp, hblk0⟩ := hx
      rw [hb] at hblk0
      have hblk := Lib.hid hblk0
      clear hblk0 hb
      obtain ⟨hc0, hc1, hc2, hf1⟩ := xcells hblk.out
      have hf2 := blk_free hblk.out 2
      have hlen := hp.len HB.out
      have hTl := size_list T
      have hpn1 : p ≤ T.size := by omega
      have hcmp : decide ((T.size : Int) - (p : Int) < (n : Int)) = true := by simp; have := HL.out; omega
      have hw1 : IntKind.i64.wrap ((T.size : Int) - (p : Int)) = (T.size : Int) - (p : Int) := IntWalk.i64_in _ (by omega)
      clear hlen hTl hp
      go_wp2_with fail
      go_quiet (fail)
      clear hw1
      go_wp2_with fail
      go_ret
      exact ⟨ret_none HS.out.1, by rw [HS.out.2]; exact ⟨p, fits_bad (by decide), blk_set (w := w1.drewN _) hblk.out 2 _⟩, (ho.drewN _).set _ _⟩
  · have h0 := fits_num (k := 1) hp0 hb
    have hS : textV s = [] ∧ textS s = numS s 1 := by unfold textV textS; rw [h0]; exact take_zero
    rw [h0] at h1
    have HS := Lib.hid hS
    have H1 := Lib.hid (show Calls Try.prog 24 #[.pointer (some ⟨b, 0, none⟩), .int .i64 1] w (XDoes b T w (.int .i64 0) (numS s 1)) from h1)
    obtain ⟨z, hz⟩ : ∃ z, (numS s 1).2 = z := ⟨_, rfl⟩
    have hz1 : (z == 0) = false := by rw [← hz]; simpa using hb
    have hz2 : (z != 0) = true := by rw [← hz]; simpa using hb
    have HZ := Lib.hid hz
    clear h0 hS h1 hb hn hz hp0
    go_enter Try.func25, Try.ntmps25
    go_wp2_with (go_at_call 24; refine H1.out.mono ?_; rintro e w1 ⟨rfl, hx, ho⟩)
    obtain ⟨p, hp, hblk0⟩ := hx
    have hblk := Lib.hid hblk0
    rw [HZ.out] at hblk0
    obtain ⟨hc0, hc1, hc2, hf1⟩ := xcells hblk0
    clear hblk0
    go_wp2_with fail
    go_quiet (fail)
    go_wp2_with fail
    go_ret
    exact ⟨ret_none HS.out.1, by rw [HS.out.2]; exact ⟨p, hp, hblk.out⟩, ho.drewN _⟩

set_option maxHeartbeats 400000 in
theorem xflag_any (b : Nat) (T : ByteArray) (s : S) (hT : T.size ≤ 5000) (w : World) (hr : Xd w b T s) :
    Calls Try.prog 26 #[.pointer (some ⟨b, 0, none⟩)] w (XDoes b T w (.bool (flagV s)) (flagS s)) := by
  have h1 := xnum_any b T s 1 hT w hr
  obtain ⟨p0, hp0, _⟩ := hr
  by_cases hb : (numS s 1).2 = 0
  · by_cases hi : 1 < numV s 1
    · have hF := flag_hi hi
      rw [fail_yes hb (by decide)] at hF
      have HF := Lib.hid hF
      obtain ⟨z, hz⟩ : ∃ z : Int, (numV s 1 : Int) = z := ⟨_, rfl⟩
      have hz1 : 1 < z := by omega
      have hz2 : (z == 1) = false := by simp; omega
      rw [hz] at h1
      have H1 := Lib.hid h1
      have HB := Lib.hid hb
      clear h1 hz hi hb hF hp0
      go_enter Try.func26, Try.ntmps26
      go_wp2_with (go_at_call 24; refine H1.out.mono ?_; rintro e w1 ⟨rfl, hx, ho⟩; obtain ⟨p, hp, hblk0⟩ := hx; rw [HB.out] at hblk0; have hblk := Lib.hid hblk0; clear hblk0; obtain ⟨hc0, hc1, hc2, hf1⟩ := xcells hblk.out; have hf2 := blk_free hblk.out 2)
      go_ret
      exact ⟨ret_bool HF.out.1.symm, by rw [HF.out.2]; exact ⟨p, fits_bad (by decide), blk_set hblk.out 2 _⟩, ho.set _ _⟩
    · have hF : flagS s = numS s 1 ∧ flagV s = decide (numV s 1 = 1) := ⟨by unfold flagS; rw [if_neg hi], rfl⟩
      have HF := Lib.hid hF
      have HB := Lib.hid hb
      by_cases h0 : numV s 1 = 1
      · have HV : Hid (flagV s = true) := by show _ = _; rw [hF.2]; simpa using h0
        rw [h0] at h1
        have H1 := Lib.hid (show Calls Try.prog 24 #[.pointer (some ⟨b, 0, none⟩), .int .i64 1] w (XDoes b T w (.int .i64 1) (numS s 1)) from h1)
        clear h1 hi hb hF hp0 h0
        go_enter Try.func26, Try.ntmps26
        go_wp2_with (go_at_call 24; refine H1.out.mono ?_; rintro e w1 ⟨rfl, hx, ho⟩; obtain ⟨p, hp, hblk0⟩ := hx; have hblk := Lib.hid hblk0; rw [HB.out] at hblk0; obtain ⟨hc0, hc1, hc2, hf1⟩ := xcells hblk0; clear hblk0)
        go_ret
        exact ⟨ret_bool HV.out.symm, by rw [HF.out.1]; exact ⟨p, hp, hblk.out⟩, ho⟩
      · have h00 : numV s 1 = 0 := by omega
        have HV : Hid (flagV s = false) := by show _ = _; rw [hF.2]; simpa using h0
        rw [h00] at h1
        have H1 := Lib.hid (show Calls Try.prog 24 #[.pointer (some ⟨b, 0, none⟩), .int .i64 1] w (XDoes b T w (.int .i64 0) (numS s 1)) from h1)
        clear h1 hi hb hF hp0 h0 h00
        go_enter Try.func26, Try.ntmps26
        go_wp2_with (go_at_call 24; refine H1.out.mono ?_; rintro e w1 ⟨rfl, hx, ho⟩; obtain ⟨p, hp, hblk0⟩ := hx; have hblk := Lib.hid hblk0; rw [HB.out] at hblk0; obtain ⟨hc0, hc1, hc2, hf1⟩ := xcells hblk0; clear hblk0)
        go_ret
        exact ⟨ret_bool HV.out.symm, by rw [HF.out.1]; exact ⟨p, hp, hblk.out⟩, ho⟩
  · have h0 := fits_num (k := 1) hp0 hb
    have HF := Lib.hid (flag_zero h0)
    rw [h0] at h1
    have H1 := Lib.hid (show Calls Try.prog 24 #[.pointer (some ⟨b, 0, none⟩), .int .i64 1] w (XDoes b T w (.int .i64 0) (numS s 1)) from h1)
    obtain ⟨z, hz⟩ : ∃ z, (numS s 1).2 = z := ⟨_, rfl⟩
    have hz1 : (z == 0) = false := by rw [← hz]; simpa using hb
    have HZ := Lib.hid hz
    clear h1 hb hp0 h0 hz
    go_enter Try.func26, Try.ntmps26
    go_wp2_with (go_at_call 24; refine H1.out.mono ?_; rintro e w1 ⟨rfl, hx, ho⟩; obtain ⟨p, hp, hblk0⟩ := hx; have hblk := Lib.hid hblk0; rw [HZ.out] at hblk0; obtain ⟨hc0, hc1, hc2, hf1⟩ := xcells hblk0; clear hblk0)
    go_ret
    exact ⟨ret_bool HF.out.1.symm, by rw [HF.out.2]; exact ⟨p, hp, hblk.out⟩, ho⟩

set_option maxHeartbeats 400000 in
theorem xleft_any (b : Nat) (T : ByteArray) (s : S) (hT : T.size ≤ 5000) (w : World) (hr : Xd w b T s) :
    Calls Try.prog 16 #[.pointer (some ⟨b, 0, none⟩)] w (XDoes b T w (.int .i64 (s.1.length : Int)) s) := by
  have HR := Lib.hid hr
  obtain ⟨p, hp, hblk0⟩ := hr
  have hblk := Lib.hid hblk0
  clear hblk0
  obtain ⟨hc0, hc1, hc2, hf1⟩ := xcells hblk.out
  by_cases h0 : s.2 = 0
  · rw [h0] at hc2
    have hlen := hp.len h0
    have hTl := size_list T
    have hL : Hid ((s.1.length : Int) = (T.size : Int) - (p : Int)) := by show _ = _; omega
    have hw1 : IntKind.i64.wrap ((T.size : Int) - (p : Int)) = (T.size : Int) - (p : Int) := IntWalk.i64_in _ (by omega)
    clear hlen hTl hp h0
    go_enter Try.func16, Try.ntmps16
    go_wp2_with fail
    go_quiet (fail)
    clear hw1
    go_wp2_with fail
    go_ret
    exact ⟨ret_int (by rw [hL.out]), by obtain ⟨q, h1, h2⟩ := HR.out; exact ⟨q, h1, h2⟩, (Only.refl _ _).drewN _⟩
  · have hL := Lib.hid (hp.bad h0)
    obtain ⟨z, hz⟩ : ∃ z, s.2 = z := ⟨_, rfl⟩
    have hz1 : (z != 0) = true := by rw [← hz]; simpa using h0
    rw [hz] at hc2
    clear hz h0 hp
    go_enter Try.func16, Try.ntmps16
    go_wp2_with fail
    go_ret
    exact ⟨ret_int (by rw [hL.out]; rfl), HR.out, Only.refl _ _⟩

set_option maxHeartbeats 400000 in
theorem xend_any (b : Nat) (T : ByteArray) (s : S) (hT : T.size ≤ 5000) (w : World) (hr : Xd w b T s) :
    Calls Try.prog 18 #[.pointer (some ⟨b, 0, none⟩)] w (XDoes b T w (.int .i64 (endV s)) (endS s)) := by
  have h1 := xleft_any b T s hT w hr
  obtain ⟨p0, hp0, _⟩ := hr
  by_cases h : 0 < s.1.length
  · have hz : s.2 = 0 := by
      by_cases h0 : s.2 = 0
      · exact h0
      · have := hp0.bad h0; rw [this] at h; simp at h
    have hE := end_yes h
    rw [fail_yes hz (by decide)] at hE
    have hV : endV s = 5 := by unfold endV; rw [hE]
    have HE := Lib.hid hE
    have HV := Lib.hid hV
    obtain ⟨z, hzz⟩ : ∃ z : Int, (s.1.length : Int) = z := ⟨_, rfl⟩
    rw [hzz] at h1
    have hz1 : 0 < z := by omega
    have H1 := Lib.hid h1
    clear h1 hp0 hzz hE hV h hz
    go_enter Try.func18, Try.ntmps18
    go_wp2_with (go_at_call 16; refine H1.out.mono ?_; rintro e w1 ⟨rfl, hx, ho⟩; obtain ⟨p, hp, hblk0⟩ := hx; have hblk := Lib.hid hblk0; clear hblk0; obtain ⟨hc0, hc1, hc2, hf1⟩ := xcells hblk.out; have hf2 := blk_free hblk.out 2)
    go_ret
    exact ⟨ret_int HV.out.symm, by rw [HE.out]; exact ⟨p, fits_bad (by decide), blk_set hblk.out 2 _⟩, ho.set _ _⟩
  · have hz : s.1.length = 0 := by omega
    have hE := end_no hz
    have HE := Lib.hid hE
    rw [hz] at h1
    have H1 := Lib.hid (show Calls Try.prog 16 #[.pointer (some ⟨b, 0, none⟩)] w (XDoes b T w (.int .i64 0) s) from h1)
    clear h1 hE hz h hp0
    go_enter Try.func18, Try.ntmps18
    go_wp2_with (go_at_call 16; refine H1.out.mono ?_; rintro e w1 ⟨rfl, hx, ho⟩; obtain ⟨p, hp, hblk0⟩ := hx; have hblk := Lib.hid hblk0; clear hblk0; obtain ⟨hc0, hc1, hc2, hf1⟩ := xcells hblk.out)
    go_ret
    exact ⟨ret_int (by show _ = (endS s).2; rw [HE.out]), by rw [HE.out]; exact ⟨p, hp, hblk.out⟩, ho⟩

end Go.Proofs.Ytmfcmheochdohaa.Bs
