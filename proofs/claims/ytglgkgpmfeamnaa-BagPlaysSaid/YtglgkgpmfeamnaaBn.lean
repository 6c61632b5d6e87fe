/- Nil bags; the law 'a nil bag has no flights; a full one loses what is sent', walked. -/
import Derived.Test.YtglgkgpmfeamnaaBl
namespace Go.Proofs.Ytglgkgpmfeamnaa.Bg
open Go.RowKit Go.Sort Rv
open St (Kept blk_cell blk_free blk_lt blk_set)
open Wh (Fr Mine)
set_option linter.unusedVariables false

abbrev NV : Value := .pointer none
section
variable (w : World) (k a b : Int) (f : Fl)
set_option maxHeartbeats 400000 in
theorem nlen : Calls Try.prog 9 #[NV] w fun e w' => e = .returned (.int .i64 0) ∧ w = w' := by
  go_enter Try.func9, Try.ntmps9
  go_wp2
  go_ret
  exact ⟨rfl, rfl⟩
set_option maxHeartbeats 400000 in
theorem nlost : Calls Try.prog 10 #[NV] w fun e w' => e = .returned (.int .i64 0) ∧ w = w' := by
  go_enter Try.func10, Try.ntmps10
  go_wp2
  go_ret
  exact ⟨rfl, rfl⟩
set_option maxHeartbeats 400000 in
theorem nsend : Calls Try.prog 13 #[NV, .agg #[.int .i64 f.fr, .int .i64 f.to, .string f.s, .bool f.h]] w fun e w' => e = .returned (.int .i64 1) ∧ Kept w w' := by
  go_enter Try.func13, Try.ntmps13
  go_wp2
  go_ret
  exact ⟨rfl, Kept.one _ _⟩
set_option maxHeartbeats 400000 in
theorem nlook : Calls Try.prog 11 #[NV, .int .i64 k] w fun e w' => e = .returned (.tuple #[.agg #[.int .i64 0, .int .i64 0, .string ⟨#[]⟩, .bool false], .int .i64 1]) ∧ Kept w w' := by
  go_enter Try.func11, Try.ntmps11
  go_wp2
  refine bodyPost_ret (v := .tuple #[.agg #[.int .i64 0, .int .i64 0, .string ⟨#[]⟩, .bool false], .int .i64 1]) (by simp [results, Try.results11, go_sem]) rfl ⟨rfl, Kept.one _ _⟩
set_option maxHeartbeats 800000 in
theorem ntake : Calls Try.prog 15 #[NV, .int .i64 k] w fun e w' => e = .returned (.tuple #[.agg #[.int .i64 0, .int .i64 0, .string ⟨#[]⟩, .bool false], .int .i64 1]) ∧ Kept w w' := by
  have CL := Lib.hid (fun W => nlook W k)
  go_enter Try.func15, Try.ntmps15
  go_wp2_with (go_at_call 11; refine (CL.out _).mono ?_; rintro e w1 ⟨rfl, hk1⟩; have hw1 := hk1.size; simp at hw1; obtain ⟨y0, y1, y2, y3, yf, yl⟩ := ((Box.newz w PT).kept hk1).cells; have yf0 := yf 0; have yf1 := yf 1; have yf2 := yf 2; have yf3 := yf 3; have BX := Lib.hid ((Box.newz w PT).kept hk1); have HK1 := Lib.hid ((Kept.one w _).trans hk1); clear hk1 yf; unfold z at y0 y1 y2 y3)
  have BX2 := (BX.out.sets z).kept (Kept.one _ (.cells #[.int .i64 0, .int .i64 0, .string ⟨#[]⟩, .bool false] PT))
  refine bodyPost_ret (Rw.results_row_tmp rfl _ _ w.heap.size PT _ (0, 0) _ rfl BX2.blk Try.underlying36 rfl info_p) rfl ?_
  exact ⟨rfl, (((Fr.kept (S := fun j => j = w.heap.size) HK1.out).trans (fr_sets _ _ _ _) (fun j c => .inl c)).keeps (fun j c => by omega)).more _⟩
set_option maxHeartbeats 400000 in
theorem ntwice : Calls Try.prog 14 #[NV, .int .i64 k] w fun e w' => e = .returned (.int .i64 1) ∧ Kept w w' := by
  have CL := Lib.hid (fun W => nlook W k)
  go_enter Try.func14, Try.ntmps14
  go_wp2_with (go_at_call 11; refine (CL.out _).mono ?_; rintro e w1 ⟨rfl, hk1⟩; have HK1 := Lib.hid hk1; clear hk1)
  go_ret
  exact ⟨rfl, HK1.out.more _⟩
set_option maxHeartbeats 400000 in
theorem nhurt : Calls Try.prog 16 #[NV, .int .i64 k, .int .i64 a, .int .i64 b] w fun e w' => e = .returned (.int .i64 1) ∧ Kept w w' := by
  have CL := Lib.hid (fun W => nlook W k)
  go_enter Try.func16, Try.ntmps16
  go_wp2_with (go_at_call 11; refine (CL.out _).mono ?_; rintro e w1 ⟨rfl, hk1⟩; have HK1 := Lib.hid hk1; clear hk1)
  go_ret
  exact ⟨rfl, HK1.out.more _⟩
end

def many (f : Fl) (m : Nat) : Sta := ⟨List.replicate m f, 0⟩
theorem many_more (f : Fl) (m : Nat) (h : m < 256) : sendS (many f m) f = many f (m + 1) ∧ sendE (many f m) = 0 := by
  have hl : (many f m).L.length < 256 := by simp [many, h]
  obtain ⟨e1, e2⟩ := send_room (f := f) hl
  exact ⟨by rw [e1]; simp [many, List.replicate_succ'], e2⟩
def full (f : Fl) (n : Nat) : Sta := ⟨List.replicate 256 f, n⟩
theorem full_send (f g : Fl) (n : Nat) : sendS (full f n) g = full f (n + 1) ∧ sendE (full f n) = 6 := by
  have hl : ¬ (full f n).L.length < 256 := by
    show ¬ (List.replicate 256 f).length < 256
    rw [List.length_replicate]; omega
  obtain ⟨e1, e2⟩ := send_full (f := g) hl
  exact ⟨e1, e2⟩
theorem full_twice (f : Fl) (n : Nat) : twiceS (full f n) 9 = full f (n + 1) ∧ twiceE (full f n) 9 = 6 := by
  have h : (full f n).L[9]? = some f := by
    show (List.replicate 256 f)[9]? = some f
    rw [List.getElem?_replicate, if_pos (by omega)]
  obtain ⟨e1, e2⟩ := twice_yes h
  exact ⟨e1.trans (full_send f f n).1, e2.trans (full_send f f n).2⟩

section
variable {W : World}
set_option maxHeartbeats 400000 in
theorem none_long (s : ByteArray) (k : Int) (h : 200 < s.size) : Calls Try.prog 5 #[.string s, .int .i64 k] W fun e w' => e = .returned (.bool true) ∧ Kept W w' := by
  have h' : (200 : Int) < (s.size : Int) := by omega
  obtain ⟨n, hn⟩ : ∃ n : Int, (s.size : Int) = n := ⟨_, rfl⟩
  rw [hn] at h'
  clear h
  have A := Lib.hid awake_any
  go_enter Try.func5, Try.ntmps5
  go_wp2_with (go_at_call 7; refine (A.out _).mono ?_; rintro e w7 ⟨rfl, hk7⟩)
  go_ret
  exact ⟨rfl, hk7⟩
set_option maxHeartbeats 3200000 in
set_option maxRecDepth 100000 in
theorem none_short (s : ByteArray) (k : Int) (h : ¬ 200 < s.size) : Calls Try.prog 5 #[.string s, .int .i64 k] W fun e w' => e = .returned (.bool true) ∧ Kept W w' := by
  have h' : ¬ (200 : Int) < (s.size : Int) := by omega
  clear h
  obtain ⟨f, hf⟩ : ∃ f : Fl, f = ⟨0, 0, s, false⟩ := ⟨_, rfl⟩
  have A := Lib.hid awake_any
  have NT := Lib.hid (fun w => ntake w k)
  have NL := Lib.hid (fun w => nlook w k)
  have NS := Lib.hid (fun w => nsend w ⟨0, 0, s, false⟩)
  have N2 := Lib.hid (fun w => ntwice w k)
  have NH := Lib.hid (fun w => nhurt w k 0 1)
  have SM : ∀ (B : Nat) (w : World) (m : Nat), m < 256 → Its PBt PT W B (many ⟨0, 0, s, false⟩ m) w → Calls Try.prog 13 #[PB B, .agg #[.int .i64 0, .int .i64 0, .string s, .bool false]] w fun e w' => e = .returned (.int .i64 0) ∧ Its PBt PT W B (many ⟨0, 0, s, false⟩ (m + 1)) w' := fun B w m hm h => by
    have := h.send (Nat.zero_le _) ⟨0, 0, s, false⟩
    rw [(many_more _ m hm).1, (many_more ⟨0, 0, s, false⟩ m hm).2] at this; exact this
  have SF : ∀ (B : Nat) (w : World), Its PBt PT W B (full ⟨0, 0, s, false⟩ 0) w → Calls Try.prog 13 #[PB B, .agg #[.int .i64 0, .int .i64 0, .string ⟨#[]⟩, .bool false]] w fun e w' => e = .returned (.int .i64 6) ∧ Its PBt PT W B (full ⟨0, 0, s, false⟩ 1) w' := fun B w h => by
    have := h.send (Nat.zero_le _) z
    rw [(full_send _ z 0).1, (full_send ⟨0, 0, s, false⟩ z 0).2] at this; exact this
  have TF : ∀ (B : Nat) (w : World), Its PBt PT W B (full ⟨0, 0, s, false⟩ 1) w → Calls Try.prog 14 #[PB B, .int .i64 9] w fun e w' => e = .returned (.int .i64 6) ∧ Its PBt PT W B (full ⟨0, 0, s, false⟩ 2) w' := fun B w h => by
    have := h.twice (show 1 ≤ 1000000 by omega) 9
    rw [(full_twice _ 1).1, (full_twice ⟨0, 0, s, false⟩ 1).2] at this; exact this
  have LF : ∀ (B : Nat) (w : World), Its PBt PT W B (full ⟨0, 0, s, false⟩ 2) w → Calls Try.prog 9 #[PB B] w fun e w' => e = .returned (.int .i64 256) ∧ w = w' := fun B w h => by
    have := h.lenC
    rw [show ((full ⟨0, 0, s, false⟩ 2).L.length : Int) = 256 by show (((List.replicate 256 _).length : Nat) : Int) = 256; rw [List.length_replicate]; rfl] at this; exact this
  have OF : ∀ (B : Nat) (w : World), Its PBt PT W B (full ⟨0, 0, s, false⟩ 2) w → Calls Try.prog 10 #[PB B] w fun e w' => e = .returned (.int .i64 2) ∧ w = w' := fun B w h => h.lostC
  have NN := Lib.hid (fun w (h : Kept W w) => new_its W w h)
  have SM := Lib.hid SM
  have SF := Lib.hid SF
  have TF := Lib.hid TF
  have LF := Lib.hid LF
  have OF := Lib.hid OF
  clear hf
  go_enter Try.func5, Try.ntmps5
  go_wp2_with fail
  refine (NT.out _).mono ?_
  rintro e w1 ⟨rfl, hk1⟩
  have K1 := Lib.hid (hk1.more (.cells #[.int .i64 0, .int .i64 0, .string ⟨#[]⟩, .bool false] PT))
  clear hk1
  go_wp2_with fail
  refine (NL.out _).mono ?_
  rintro e w2 ⟨rfl, hk2⟩
  have K2 := Lib.hid ((K1.out.trans hk2).more (.cells #[.int .i64 0, .int .i64 0, .string ⟨#[]⟩, .bool false] PT))
  clear hk2
  go_wp2_with fail
  refine (NS.out _).mono ?_
  rintro e w3 ⟨rfl, hk3⟩
  have K3 := Lib.hid (K2.out.trans hk3)
  clear hk3
  go_wp2_with fail
  refine (N2.out _).mono ?_
  rintro e w4 ⟨rfl, hk4⟩
  have K4 := Lib.hid (K3.out.trans hk4)
  clear hk4
  go_wp2_with fail
  refine (NH.out _).mono ?_
  rintro e w5 ⟨rfl, hk5⟩
  have K5 := Lib.hid (K4.out.trans hk5)
  clear hk5
  go_wp2_with fail
  refine (nlen _).mono ?_
  rintro e w6 ⟨rfl, rfl⟩
  go_wp2_with fail
  refine (nlost _).mono ?_
  rintro e w6 ⟨rfl, rfl⟩
  go_wp2_with fail
  refine (NN.out _ K5.out).mono ?_
  rintro e w7 ⟨B, rfl, a7, _, _⟩
  have A7 := Lib.hid a7
  clear a7
  go_wp2_with fail
  go_loopw [11] (fun i wr => ∃ m : Nat, m ≤ 256 ∧ i = .int .i64 (m : Int) ∧ Its PBt PT W B (many ⟨0, 0, s, false⟩ m) wr) (fun i _ => 256 - (intOf i).toNat)
  case atStart => exact ⟨0, Nat.zero_le _, rfl, A7.out⟩
  case round =>
    obtain ⟨m, hm, rfl, hI⟩ := hrel
    have HI := Lib.hid hI
    clear hI
    by_cases hlt : m < 256
    · have hlt' : (m : Int) < 256 := by omega
      have HM := Lib.hid hlt
      clear hlt hm
      go_wp2_with fail
      refine (SM.out _ _ m HM.out HI.out).mono ?_
      rintro e w8 ⟨rfl, a8⟩
      have A8 := Lib.hid a8
      clear a8
      go_wp2_with fail
      go_roundw
      case rel => exact ⟨m + 1, HM.out, by go_num, A8.out⟩
      case measure => have := HM.out; simp [intOf]; omega
    · have hlt' : (256 : Int) ≤ (m : Int) := by omega
      obtain rfl : m = 256 := by omega
      have HF : Hid (Its PBt PT W B (full ⟨0, 0, s, false⟩ 0) wr) := HI.out
      clear hlt hlt' HI hm
      go_wp2_with fail
      refine (SF.out _ _ HF.out).mono ?_
      rintro e w8 ⟨rfl, a8⟩
      have A8 := Lib.hid a8
      clear a8
      go_wp2_with fail
      refine (TF.out _ _ A8.out).mono ?_
      rintro e w9 ⟨rfl, a9⟩
      have A9 := Lib.hid a9
      clear a9
      go_wp2_with fail
      refine (LF.out _ _ A9.out).mono ?_
      rintro e w10 ⟨rfl, rfl⟩
      go_wp2_with fail
      refine (OF.out _ _ A9.out).mono ?_
      rintro e w10 ⟨rfl, rfl⟩
      go_wp2_with fail
      refine (A.out _).mono ?_
      rintro e w11 ⟨rfl, hk11⟩
      have K11 := Lib.hid (A9.out.kept.trans hk11)
      clear hk11
      go_wp2_with fail
      go_ret
      exact ⟨rfl, K11.out⟩
theorem none_any (s : ByteArray) (k : Int) : Calls Try.prog 5 #[.string s, .int .i64 k] W fun e w' => e = .returned (.bool true) ∧ Kept W w' := by
  by_cases h : 200 < s.size
  · exact none_long s k h
  · exact none_short s k h
end

end Go.Proofs.Ytglgkgpmfeamnaa.Bg
