/- The walks of the laws of layer 2. -/
import Derived.Test.YtdmjbhodjkidaaaDoorTm5
import Derived.Test.YtdmjbhodjkidaaaDoorTm6
namespace Go.Proofs.YtdmjbhodjkidaaaDoor.Tm
open Go.RowKit St Go.Sort

/-- the world of the call, or one behind it in which what was there stands, the library's table with it -/
def At (a b : World) : Prop := Kept a b ∧ Tab b
theorem At.refl {a : World} (h : Tab a) : At a a := ⟨Kept.refl a, h⟩
theorem At.go {a b c : World} (h : At a b) (k : Kept b c) : At a c := ⟨h.1.trans k, h.2.kept k⟩
theorem at_of {f : FuncId} {args : Array Value} {v : Value} {a b : World} (hA : At a b)
    (h : Calls Tryd.prog f args b fun e w' => e = .returned v ∧ Kept b w') : Calls Tryd.prog f args b fun e w' => e = .returned v ∧ At a w' :=
  h.mono fun _ _ ⟨he, hk⟩ => ⟨he, hA.go hk⟩

theorem dec_ex : dec [53, 83] = (5000000, 0) := by decide +kernel
theorem enc_ex : enc (Tk.clamp 100000000) = [49, 48, 48, 48, 48, 48, 109] := by
  rw [Tk.clamp_id _ (by omega) (by omega)]
  have e : fin 100000000 = 1 := by decide
  unfold enc
  rw [e, show ((100000000 : Int) / uAt 1).toNat = 100000 by decide]
  repeat rw [Lib.decDigits, dif_neg (by omega)]
  rw [Lib.decDigits_one (by omega)]
  decide

set_option maxHeartbeats 1000000 in
theorem awake_any (a w : World) (h : At a w) : Calls Tryd.prog 10 #[] w fun e w' => e = .returned (.bool true) ∧ At a w' := by
  have c1 : ∀ w, Calls Tryd.prog 6 #[.string { data := #[53, 83] }] w fun e w' => e = .returned (.tuple #[.int .i64 5000000, .int .i64 0]) ∧ w = w' := fun w => by
    have := dec_any ⟨#[53, 83]⟩ w
    rw [show (⟨#[53, 83]⟩ : ByteArray).data.toList = [53, 83] from rfl, dec_ex] at this
    exact this
  have c2 : ∀ w, At a w → Calls Tryd.prog 8 #[.int .i64 100000000] w fun e w' => e = .returned (.string { data := #[49, 48, 48, 48, 48, 48, 109] }) ∧ At a w' := fun w hA => by
    have := at_of hA (enc_any 100000000 w hA.2)
    rw [enc_ex] at this
    exact this
  have C1 := Lib.hid c1
  have C2 := Lib.hid c2
  clear c1 c2
  go_enter Tryd.func10, Tryd.ntmps10
  go_wp2_with (first | (go_at_call 6; refine (C1.out _).mono ?_; rintro e w' ⟨rfl, rfl⟩) | (go_at_call 8; refine (C2.out _ h).mono ?_; rintro e w' ⟨rfl, HA⟩))
  go_ret
  exact ⟨rfl, HA⟩

set_option maxHeartbeats 1000000 in
theorem tells_any (s : ByteArray) (t : Int) (w : World) (ht : Tab w) :
    Calls Tryd.prog 3 #[.string s, .int .i64 t] w fun e w' => e = .returned (.bool true) ∧ Kept w w' := by
  have HA := At.refl ht
  obtain ⟨S, hS⟩ : ∃ S : ByteArray, (⟨(enc (Tk.clamp t)).toArray⟩ : ByteArray) = S := ⟨_, rfl⟩
  have c1 : ∀ b, At w b → Calls Tryd.prog 8 #[.int .i64 t] b fun e w' => e = .returned (.string S) ∧ At w w' := fun b hb => by rw [← hS]; exact at_of hb (enc_any t b hb.2)
  have c2 : ∀ b, At w b → Calls Tryd.prog 9 #[.int .i64 t] b fun e w' => e = .returned (.string S) ∧ At w w' := fun b hb => by rw [← hS]; exact at_of hb (renc_any t b)
  obtain ⟨x, hx⟩ : ∃ x, (dec s.data.toList).1 = x := ⟨_, rfl⟩
  obtain ⟨y, hy⟩ : ∃ y, (dec s.data.toList).2 = y := ⟨_, rfl⟩
  have c3 : ∀ b, Calls Tryd.prog 6 #[.string s] b fun e w' => e = .returned (.tuple #[.int .i64 x, .int .i64 y]) ∧ b = w' := fun b => by rw [← hx, ← hy]; exact dec_any s b
  have c4 : ∀ b, Calls Tryd.prog 7 #[.string s] b fun e w' => e = .returned (.tuple #[.int .i64 x, .int .i64 y]) ∧ b = w' := fun b => by rw [← hx, ← hy]; exact rdec_any s b
  have C1 := Lib.hid c1
  have C2 := Lib.hid c2
  have C3 := Lib.hid c3
  have C4 := Lib.hid c4
  clear c1 c2 c3 c4 hS hx hy
  go_enter Tryd.func3, Tryd.ntmps3
  go_wp2_with (first
    | (go_at_call 6; refine (C3.out _).mono ?_; rintro e w' ⟨rfl, rfl⟩)
    | (go_at_call 7; refine (C4.out _).mono ?_; rintro e w' ⟨rfl, rfl⟩)
    | (go_at_call 8; refine (C1.out _ (by assumption)).mono ?_; rintro e w' ⟨rfl, HA⟩)
    | (go_at_call 9; refine (C2.out _ (by assumption)).mono ?_; rintro e w' ⟨rfl, HA⟩)
    | (go_at_call 10; refine (awake_any w _ (by assumption)).mono ?_; rintro e w' ⟨rfl, HA⟩))
  go_ret
  exact ⟨rfl, HA.1⟩

/-- what a told span is, under names: the text, its last byte and unit, and what is left -/
theorem told (t : Int) : ∃ (x n u c : Int) (m : Nat) (S : ByteArray),
    RowKit.Hid (Tk.clamp t = x) ∧ RowKit.Hid (left x = n) ∧ RowKit.Hid (u = uAt (fin x)) ∧ 0 ≤ x ∧ x ≤ 1125899906842624 ∧ 0 ≤ n ∧ n ≤ x ∧ x - n < u ∧ unit c = u ∧ S.size = m + 1 ∧ 1 ≤ m ∧ m ≤ 8 ∧
    (∀ w, (Instr.index 9 (.string S) (.int .i64 (m : Int))).run Tryd.prog w = .ok (.int .u8 c) w) ∧
    RowKit.Hid (∀ a b, At a b → Calls Tryd.prog 8 #[.int .i64 t] b fun e w' => e = .returned (.string S) ∧ At a w') ∧
    RowKit.Hid (∀ b, Calls Tryd.prog 6 #[.string S] b fun e w' => e = .returned (.tuple #[.int .i64 n, .int .i64 0]) ∧ b = w') ∧
    RowKit.Hid (∀ a b, At a b → Calls Tryd.prog 12 #[.int .i64 t] b fun e w' => e = .returned (.int .i64 n) ∧ At a w') ∧
    RowKit.Hid (∀ b, Calls Tryd.prog 11 #[.int .i64 t] b fun e w' => e = .returned (.int .i64 x) ∧ b = w') ∧
    (x ≤ 99999999 → n = x) := by
  have h0 := Tk.clamp_lo t
  have h1 := Tk.clamp_hi t
  obtain ⟨m, hm, hm1, hm8, hl⟩ := enc_size h0 h1
  have hsz : (⟨(enc (Tk.clamp t)).toArray⟩ : ByteArray).size = m + 1 := by rw [size_list]; exact hm
  obtain ⟨c, hidx, _, _, hc⟩ := byteAt ⟨(enc (Tk.clamp t)).toArray⟩ m (by omega)
  refine ⟨Tk.clamp t, left (Tk.clamp t), uAt (fin (Tk.clamp t)), c, m, ⟨(enc (Tk.clamp t)).toArray⟩, rfl, rfl, rfl, h0, h1, left_lo h0, left_le, left_lt _, ?_, hsz, hm1, hm8, hidx, ?_, ?_, ?_, ?_, fun h => left_small h⟩
  · rw [hc.out]
    show unit (((enc (Tk.clamp t)).getD m 0).toNat : Int) = _
    rw [hl, unit_cAt]
  · exact fun a b hb => at_of hb (enc_any t b hb.2)
  · intro b
    have := dec_any ⟨(enc (Tk.clamp t)).toArray⟩ b
    rw [show (⟨(enc (Tk.clamp t)).toArray⟩ : ByteArray).data.toList = enc (Tk.clamp t) from rfl, dec_enc h0 h1] at this
    exact this
  · intro a b hb
    have := at_of hb (cut_any t b hb.2)
    unfold cut at this
    rw [dec_enc h0 h1] at this
    exact this
  · exact fun b => Tk.rclamp_any t b

set_option maxHeartbeats 1000000 in
theorem less_any (t : Int) (w : World) (ht : Tab w) :
    Calls Tryd.prog 4 #[.int .i64 t] w fun e w' => e = .returned (.bool true) ∧ Kept w w' := by
  have HA := At.refl ht
  obtain ⟨x, n, u, c, m, S, hx, hn, hU, hx0, hx1, hn0, hn1, hlt, hu, hS, hm1, hm8, hidx, CE, CD, CC, CL, hsm⟩ := told t
  have c5 : ∀ b, At w b → Calls Tryd.prog 12 #[.int .i64 n] b fun e w' => e = .returned (.int .i64 n) ∧ At w w' := fun b hb => by
    have := at_of hb (cut_any n b hb.2)
    unfold cut at this
    rw [Tk.clamp_id n hn0 (by omega), dec_enc hn0 (by omega), ← hn.out, left_left] at this
    rw [← hn.out]; exact this
  have C5 := Lib.hid c5
  clear c5
  by_cases h9 : x ≤ 99999999
  · have e := hsm h9
    clear hsm
    subst e
    go_enter Tryd.func4, Tryd.ntmps4
    go_wp2_with fail
    refine (CE.out w _ (by assumption)).mono ?_; rintro e w1 ⟨rfl, HA1⟩
    go_wp2_with fail
    refine (CD.out _).mono ?_; rintro e w' ⟨rfl, rfl⟩
    go_wp2_with fail
    refine (CL.out _).mono ?_; rintro e w' ⟨rfl, rfl⟩
    go_wp2_with fail
    refine (CC.out w _ (by assumption)).mono ?_; rintro e w2 ⟨rfl, HA2⟩
    go_wp2_with fail
    refine (C5.out _ (by assumption)).mono ?_; rintro e w3 ⟨rfl, HA3⟩
    go_wp2_with fail
    refine (runit_any _ _).mono ?_; rintro e w' ⟨rfl, rfl⟩
    go_wp2_with fail
    refine (awake_any w _ (by assumption)).mono ?_; rintro e w4 ⟨rfl, HA4⟩
    go_wp2_with fail
    go_ret
    exact ⟨rfl, HA4.1⟩
  · clear hsm
    go_enter Tryd.func4, Tryd.ntmps4
    go_wp2_with fail
    refine (CE.out w _ (by assumption)).mono ?_; rintro e w1 ⟨rfl, HA1⟩
    go_wp2_with fail
    refine (CD.out _).mono ?_; rintro e w' ⟨rfl, rfl⟩
    go_wp2_with fail
    refine (CL.out _).mono ?_; rintro e w' ⟨rfl, rfl⟩
    go_wp2_with fail
    refine (CC.out w _ (by assumption)).mono ?_; rintro e w2 ⟨rfl, HA2⟩
    go_wp2_with fail
    refine (C5.out _ (by assumption)).mono ?_; rintro e w3 ⟨rfl, HA3⟩
    go_wp2_with fail
    refine (runit_any _ _).mono ?_; rintro e w' ⟨rfl, rfl⟩
    go_wp2_with fail
    refine (awake_any w _ (by assumption)).mono ?_; rintro e w4 ⟨rfl, HA4⟩
    go_wp2_with fail
    go_ret
    exact ⟨rfl, HA4.1⟩

set_option maxHeartbeats 1000000 in
theorem rises_le (a b : Int) (hab : a ≤ b) (w : World) (ht : Tab w) :
    Calls Tryd.prog 5 #[.int .i64 a, .int .i64 b] w fun e w' => e = .returned (.bool true) ∧ Kept w w' := by
  have HA := At.refl ht
  obtain ⟨xa, na, ua, ca, ma, Sa, hxa, hna, hUa, hxa0, hxa1, hna0, hna1, hlta, hua, hSa, hma1, hma8, hidxa, CEa, CDa, CCa, CLa, hsma⟩ := told a
  obtain ⟨x, n, u, c, m, S, hx, hn, hU, hx0, hx1, hn0, hn1, hlt, hu, hS, hm1, hm8, hidx, CEb, CDb, CCb, CLb, hsm⟩ := told b
  have hxx : xa ≤ x := by rw [← hxa.out, ← hx.out]; exact Tk.clamp_mono (by omega)
  have hlt2 : na - n < u := by omega
  by_cases hle : na ≤ n
  · clear hsm hsma CEa CDa CLa CDb CLb hua hidxa hSa
    go_enter Tryd.func5, Tryd.ntmps5
    go_wp2_with fail
    refine (CEb.out w _ (by assumption)).mono ?_; rintro e w1 ⟨rfl, HA1⟩
    go_wp2_with fail
    refine (CCa.out w _ (by assumption)).mono ?_; rintro e w2 ⟨rfl, HA2⟩
    go_wp2_with fail
    refine (CCb.out w _ (by assumption)).mono ?_; rintro e w3 ⟨rfl, HA3⟩
    go_wp2_with fail
    refine (runit_any _ _).mono ?_; rintro e w' ⟨rfl, rfl⟩
    go_wp2_with fail
    refine (awake_any w _ (by assumption)).mono ?_; rintro e w4 ⟨rfl, HA4⟩
    go_wp2_with fail
    go_ret
    exact ⟨rfl, HA4.1⟩
  · have hbig : 100000000000000 ≤ x := by
      have h1 := hna.out
      have h2 := hn.out
      rcases Int.lt_or_le x 100000000000000 with h | h
      · have := left_rises hxa0 hxx h
        omega
      · exact h
    clear hsm hsma CEa CDa CLa CDb hua hidxa hSa
    go_enter Tryd.func5, Tryd.ntmps5
    go_wp2_with fail
    refine (CEb.out w _ (by assumption)).mono ?_; rintro e w1 ⟨rfl, HA1⟩
    go_wp2_with fail
    refine (CCa.out w _ (by assumption)).mono ?_; rintro e w2 ⟨rfl, HA2⟩
    go_wp2_with fail
    refine (CCb.out w _ (by assumption)).mono ?_; rintro e w3 ⟨rfl, HA3⟩
    go_wp2_with fail
    refine (runit_any _ _).mono ?_; rintro e w' ⟨rfl, rfl⟩
    go_wp2_with fail
    refine (CLb.out _).mono ?_; rintro e w' ⟨rfl, rfl⟩
    go_wp2_with fail
    refine (awake_any w _ (by assumption)).mono ?_; rintro e w4 ⟨rfl, HA4⟩
    go_wp2_with fail
    go_ret
    exact ⟨rfl, HA4.1⟩

set_option maxHeartbeats 1000000 in
theorem rises_gt (a b : Int) (hab : a < b) (w : World) (ht : Tab w) :
    Calls Tryd.prog 5 #[.int .i64 b, .int .i64 a] w fun e w' => e = .returned (.bool true) ∧ Kept w w' := by
  have HA := At.refl ht
  obtain ⟨xa, na, ua, ca, ma, Sa, hxa, hna, hUa, hxa0, hxa1, hna0, hna1, hlta, hua, hSa, hma1, hma8, hidxa, CEa, CDa, CCa, CLa, hsma⟩ := told a
  obtain ⟨x, n, u, c, m, S, hx, hn, hU, hx0, hx1, hn0, hn1, hlt, hu, hS, hm1, hm8, hidx, CEb, CDb, CCb, CLb, hsm⟩ := told b
  have hxx : xa ≤ x := by rw [← hxa.out, ← hx.out]; exact Tk.clamp_mono (by omega)
  have hlt2 : na - n < u := by omega
  by_cases hle : na ≤ n
  · clear hsm hsma CEa CDa CLa CDb CLb hua hidxa hSa
    go_enter Tryd.func5, Tryd.ntmps5
    go_wp2_with fail
    refine (CEb.out w _ (by assumption)).mono ?_; rintro e w1 ⟨rfl, HA1⟩
    go_wp2_with fail
    refine (CCa.out w _ (by assumption)).mono ?_; rintro e w2 ⟨rfl, HA2⟩
    go_wp2_with fail
    refine (CCb.out w _ (by assumption)).mono ?_; rintro e w3 ⟨rfl, HA3⟩
    go_wp2_with fail
    refine (runit_any _ _).mono ?_; rintro e w' ⟨rfl, rfl⟩
    go_wp2_with fail
    refine (awake_any w _ (by assumption)).mono ?_; rintro e w4 ⟨rfl, HA4⟩
    go_wp2_with fail
    go_ret
    exact ⟨rfl, HA4.1⟩
  · have hbig : 100000000000000 ≤ x := by
      have h1 := hna.out
      have h2 := hn.out
      rcases Int.lt_or_le x 100000000000000 with h | h
      · have := left_rises hxa0 hxx h
        omega
      · exact h
    clear hsm hsma CEa CDa CLa CDb hua hidxa hSa
    go_enter Tryd.func5, Tryd.ntmps5
    go_wp2_with fail
    refine (CEb.out w _ (by assumption)).mono ?_; rintro e w1 ⟨rfl, HA1⟩
    go_wp2_with fail
    refine (CCa.out w _ (by assumption)).mono ?_; rintro e w2 ⟨rfl, HA2⟩
    go_wp2_with fail
    refine (CCb.out w _ (by assumption)).mono ?_; rintro e w3 ⟨rfl, HA3⟩
    go_wp2_with fail
    refine (runit_any _ _).mono ?_; rintro e w' ⟨rfl, rfl⟩
    go_wp2_with fail
    refine (CLb.out _).mono ?_; rintro e w' ⟨rfl, rfl⟩
    go_wp2_with fail
    refine (awake_any w _ (by assumption)).mono ?_; rintro e w4 ⟨rfl, HA4⟩
    go_wp2_with fail
    go_ret
    exact ⟨rfl, HA4.1⟩

theorem rises_any (a b : Int) (w : World) (ht : Tab w) :
    Calls Tryd.prog 5 #[.int .i64 a, .int .i64 b] w fun e w' => e = .returned (.bool true) ∧ Kept w w' := by
  rcases Int.lt_or_le b a with h | h
  · exact rises_gt b a h w ht
  · exact rises_le a b h w ht

end Go.Proofs.YtdmjbhodjkidaaaDoor.Tm
