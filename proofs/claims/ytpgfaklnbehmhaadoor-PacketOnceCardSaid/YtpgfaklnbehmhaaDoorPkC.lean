/- The law of layer 8: what is parsed is told as just these bytes. -/
import Derived.Test.YtpgfaklnbehmhaaDoorPkL
import Derived.Deep.Cut
namespace Go.Proofs.YtpgfaklnbehmhaaDoor.Pk
open Go.RowKit Go.Sort St BsM IdM PkM
open Go.Proofs.YtpgfaklnbehmhaaDoor.Id
open Go.Proofs.YtpgfaklnbehmhaaDoor.Bs (kept_blk)
set_option linter.unusedVariables false

set_option maxRecDepth 100000 in
set_option maxHeartbeats 4000000 in
theorem once_no_s (s t : ByteArray) (w : World) (ht : Cr.Tab w) (haw : ∀ u, Cr.Tab u → Calls Tryd.prog 6 #[] u fun e v => e = .returned (.bool true) ∧ Kept u v) (hs : ¬ 300 < s.size) (hst : s = t) (h3 : t.size ≤ 300) (hne : ¬ prsE (CrM.sealed t.data.toList) = 0) : Calls Tryd.prog 4 #[.string s] w fun e w' => e = .returned (.bool true) ∧ Kept w w' := by
  subst hst
  obtain ⟨D, hD⟩ : ∃ D : ByteArray, Hid ((⟨(CrM.sealed s.data.toList).toArray⟩ : ByteArray) = D) := ⟨_, rfl⟩
  have hDl : D.data.toList = CrM.sealed s.data.toList := by rw [← hD.out]
  have hDs : D.size ≤ 5000 := by rw [size_list, hDl, CrM.seal_len, ← size_list]; omega
  have HS := Lib.hid (show ∀ u, Calls Tryd.prog 14 #[.string s] u fun e v => e = .returned (.string D) ∧ Kept u v from fun u => by
    have := Cr.rseal_any s (by omega) u
    rw [hD.out] at this; exact this)
  obtain ⟨P, hP⟩ : ∃ P, prsP D.data.toList = P := ⟨_, rfl⟩
  obtain ⟨E, hE⟩ : ∃ E, prsE D.data.toList = E := ⟨_, rfl⟩
  have HP := Lib.hid (show ∀ u, Kept w u → Calls Tryd.prog 12 #[.string D] u fun e v => e = .returned (.tuple #[.agg P.arr, .int .i64 E]) ∧ Kept u v from fun u hu => by
    have := parse_any D hDs u (ht.kept hu)
    rw [hP, hE] at this; exact this)
  have HW8 := Lib.hid (show ∀ u, Kept w u → Calls Tryd.prog 6 #[] u fun e v => e = .returned (.bool true) ∧ Kept u v from fun u hu => haw u (ht.kept hu))
  have hE1 : (E != 0) = true := by rw [← hE, hDl]; simpa using hne
  clear haw ht hD hDl hDs hP hE hne
  go_enter Tryd.func4, Tryd.ntmps4
  go_upto_region 4 with (first
    | (go_at_call 14; refine (HS.out _).mono ?_; rintro e u1 ⟨rfl, hk1⟩)
    | (go_at_call 12; refine (HP.out _ hk1).mono ?_; rintro e u2 ⟨rfl, hk2⟩)
    | (refine store_new rfl 27 (.tmp 3) (.tmp 14) rfl u2.heap.size P.arr rfl rfl u2 _ rfl 23 info_pk rfl rfl (by kernel_rfl) ?_))
  have hK3 : Kept w (u2.alloc (.cells P.arr 27)) := (hk1.trans hk2).more _
  have hq3 := blk_new u2 (.cells P.arr 27)
  go_wp2_with (go_at_call 6; refine (HW8.out _ hK3).mono ?_; rintro e v ⟨rfl, hv⟩)
  go_ret
  exact ⟨rfl, hK3.trans hv⟩

set_option maxRecDepth 100000 in
set_option maxHeartbeats 4000000 in
theorem once_yes_s (s t : ByteArray) (w : World) (ht : Cr.Tab w) (haw : ∀ u, Cr.Tab u → Calls Tryd.prog 6 #[] u fun e v => e = .returned (.bool true) ∧ Kept u v) (hs : ¬ 300 < s.size) (hst : s = t) (h3 : t.size ≤ 300) (hok : okB (prsP (CrM.sealed t.data.toList)) = true) (hb : bodyL (prsP (CrM.sealed t.data.toList)) = t.data.toList) (hz : prsE (CrM.sealed t.data.toList) = 0) : Calls Tryd.prog 4 #[.string s] w fun e w' => e = .returned (.bool true) ∧ Kept w w' := by
  subst hst
  obtain ⟨D, hD⟩ : ∃ D : ByteArray, Hid ((⟨(CrM.sealed s.data.toList).toArray⟩ : ByteArray) = D) := ⟨_, rfl⟩
  have hDl : D.data.toList = CrM.sealed s.data.toList := by rw [← hD.out]
  have hDs : D.size ≤ 5000 := by rw [size_list, hDl, CrM.seal_len, ← size_list]; omega
  have HS := Lib.hid (show ∀ u, Calls Tryd.prog 14 #[.string s] u fun e v => e = .returned (.string D) ∧ Kept u v from fun u => by
    have := Cr.rseal_any s (by omega) u
    rw [hD.out] at this; exact this)
  obtain ⟨P, hP⟩ : ∃ P, prsP D.data.toList = P := ⟨_, rfl⟩
  obtain ⟨E, hE⟩ : ∃ E, prsE D.data.toList = E := ⟨_, rfl⟩
  have HP := Lib.hid (show ∀ u, Kept w u → Calls Tryd.prog 12 #[.string D] u fun e v => e = .returned (.tuple #[.agg P.arr, .int .i64 E]) ∧ Kept u v from fun u hu => by
    have := parse_any D hDs u (ht.kept hu)
    rw [hP, hE] at this; exact this)
  have HW8 := Lib.hid (show ∀ u, Kept w u → Calls Tryd.prog 6 #[] u fun e v => e = .returned (.bool true) ∧ Kept u v from fun u hu => haw u (ht.kept hu))
  have hE0 : E = 0 := by rw [← hE, hDl]; exact hz
  subst hE0
  have hokP : okB P = true := by rw [← hP, hDl]; exact hok
  have hbP : bodyL P = s.data.toList := by rw [← hP, hDl]; exact hb
  have hr : Hid (restB P = true) := Lib.hid (ok_rest hokP)
  have hDP : Hid ((⟨(CrM.sealed (bodyL P)).toArray⟩ : ByteArray) = D) := Lib.hid (by rw [hbP]; exact hD.out)
  have HC := Lib.hid (show ∀ u, Kept w u → Calls Tryd.prog 11 #[.agg P.arr] u fun e v => e = .returned (.string D) ∧ Kept u v from fun u hu => code_pk hr hDP (ht.kept hu))
  have HR := Lib.hid (show ∀ u, Calls Tryd.prog 8 #[.agg P.arr] u fun e v => e = .returned (.bool true) ∧ Kept u v from fun u => okp_as (Lib.hid hokP))
  clear haw ht hD hDl hDs hP hE hok hb hz hokP hbP hr hDP
  go_enter Tryd.func4, Tryd.ntmps4
  go_upto_region 4 with (first
    | (go_at_call 14; refine (HS.out _).mono ?_; rintro e u1 ⟨rfl, hk1⟩)
    | (go_at_call 12; refine (HP.out _ hk1).mono ?_; rintro e u2 ⟨rfl, hk2⟩)
    | (refine store_new rfl 27 (.tmp 3) (.tmp 14) rfl u2.heap.size P.arr rfl rfl u2 _ rfl 23 info_pk rfl rfl (by kernel_rfl) ?_))
  have hK3 : Kept w (u2.alloc (.cells P.arr 27)) := (hk1.trans hk2).more _
  have hq3 := blk_new u2 (.cells P.arr 27)
  go_wp2_with (first
    | (go_at_call 11; refine (HC.out _ hK3).mono ?_; rintro e u4 ⟨rfl, hk4⟩; have hK4 := hK3.trans hk4; have hq4 := kept_blk hk4 hq3)
    | (go_at_call 14; refine (HS.out _).mono ?_; rintro e u5 ⟨rfl, hk5⟩; have hK5 := hK4.trans hk5; have hq5 := kept_blk hk5 hq4)
    | (go_at_call 8; refine (HR.out _).mono ?_; rintro e u6 ⟨rfl, hk6⟩; have hK6 := hK5.trans hk6)
    | (go_at_call 6; refine (HW8.out _ hK6).mono ?_; rintro e v ⟨rfl, hv⟩)
    | (refine load_g (.tmp 3) rfl (u2.heap.size) rfl rfl P hq3 ?_)
    | (refine load_g (.tmp 3) rfl (u2.heap.size) rfl rfl P hq5 ?_))
  go_ret
  exact ⟨rfl, hK6.trans hv⟩

set_option maxRecDepth 100000 in
set_option maxHeartbeats 4000000 in
theorem once_no_l (s t : ByteArray) (w : World) (ht : Cr.Tab w) (haw : ∀ u, Cr.Tab u → Calls Tryd.prog 6 #[] u fun e v => e = .returned (.bool true) ∧ Kept u v) (hs : 300 < s.size) (htt : ∀ u, (Instr.slice 9 (.string s) none (some (.int .i64 300)) none).run Tryd.prog u = .ok (.string t) u) (h3 : t.size ≤ 300) (hne : ¬ prsE (CrM.sealed t.data.toList) = 0) : Calls Tryd.prog 4 #[.string s] w fun e w' => e = .returned (.bool true) ∧ Kept w w' := by
  obtain ⟨D, hD⟩ : ∃ D : ByteArray, Hid ((⟨(CrM.sealed t.data.toList).toArray⟩ : ByteArray) = D) := ⟨_, rfl⟩
  have hDl : D.data.toList = CrM.sealed t.data.toList := by rw [← hD.out]
  have hDs : D.size ≤ 5000 := by rw [size_list, hDl, CrM.seal_len, ← size_list]; omega
  have HS := Lib.hid (show ∀ u, Calls Tryd.prog 14 #[.string t] u fun e v => e = .returned (.string D) ∧ Kept u v from fun u => by
    have := Cr.rseal_any t (by omega) u
    rw [hD.out] at this; exact this)
  obtain ⟨P, hP⟩ : ∃ P, prsP D.data.toList = P := ⟨_, rfl⟩
  obtain ⟨E, hE⟩ : ∃ E, prsE D.data.toList = E := ⟨_, rfl⟩
  have HP := Lib.hid (show ∀ u, Kept w u → Calls Tryd.prog 12 #[.string D] u fun e v => e = .returned (.tuple #[.agg P.arr, .int .i64 E]) ∧ Kept u v from fun u hu => by
    have := parse_any D hDs u (ht.kept hu)
    rw [hP, hE] at this; exact this)
  have HW8 := Lib.hid (show ∀ u, Kept w u → Calls Tryd.prog 6 #[] u fun e v => e = .returned (.bool true) ∧ Kept u v from fun u hu => haw u (ht.kept hu))
  have hE1 : (E != 0) = true := by rw [← hE, hDl]; simpa using hne
  clear haw ht hD hDl hDs hP hE hne
  go_enter Tryd.func4, Tryd.ntmps4
  go_upto_region 4 with (first
    | (go_at_call 14; refine (HS.out _).mono ?_; rintro e u1 ⟨rfl, hk1⟩)
    | (go_at_call 12; refine (HP.out _ hk1).mono ?_; rintro e u2 ⟨rfl, hk2⟩)
    | (refine store_new rfl 27 (.tmp 3) (.tmp 14) rfl u2.heap.size P.arr rfl rfl u2 _ rfl 23 info_pk rfl rfl (by kernel_rfl) ?_))
  have hK3 : Kept w (u2.alloc (.cells P.arr 27)) := (hk1.trans hk2).more _
  have hq3 := blk_new u2 (.cells P.arr 27)
  go_wp2_with (go_at_call 6; refine (HW8.out _ hK3).mono ?_; rintro e v ⟨rfl, hv⟩)
  go_ret
  exact ⟨rfl, hK3.trans hv⟩

set_option maxRecDepth 100000 in
set_option maxHeartbeats 4000000 in
theorem once_yes_l (s t : ByteArray) (w : World) (ht : Cr.Tab w) (haw : ∀ u, Cr.Tab u → Calls Tryd.prog 6 #[] u fun e v => e = .returned (.bool true) ∧ Kept u v) (hs : 300 < s.size) (htt : ∀ u, (Instr.slice 9 (.string s) none (some (.int .i64 300)) none).run Tryd.prog u = .ok (.string t) u) (h3 : t.size ≤ 300) (hok : okB (prsP (CrM.sealed t.data.toList)) = true) (hb : bodyL (prsP (CrM.sealed t.data.toList)) = t.data.toList) (hz : prsE (CrM.sealed t.data.toList) = 0) : Calls Tryd.prog 4 #[.string s] w fun e w' => e = .returned (.bool true) ∧ Kept w w' := by
  obtain ⟨D, hD⟩ : ∃ D : ByteArray, Hid ((⟨(CrM.sealed t.data.toList).toArray⟩ : ByteArray) = D) := ⟨_, rfl⟩
  have hDl : D.data.toList = CrM.sealed t.data.toList := by rw [← hD.out]
  have hDs : D.size ≤ 5000 := by rw [size_list, hDl, CrM.seal_len, ← size_list]; omega
  have HS := Lib.hid (show ∀ u, Calls Tryd.prog 14 #[.string t] u fun e v => e = .returned (.string D) ∧ Kept u v from fun u => by
    have := Cr.rseal_any t (by omega) u
    rw [hD.out] at this; exact this)
  obtain ⟨P, hP⟩ : ∃ P, prsP D.data.toList = P := ⟨_, rfl⟩
  obtain ⟨E, hE⟩ : ∃ E, prsE D.data.toList = E := ⟨_, rfl⟩
  have HP := Lib.hid (show ∀ u, Kept w u → Calls Tryd.prog 12 #[.string D] u fun e v => e = .returned (.tuple #[.agg P.arr, .int .i64 E]) ∧ Kept u v from fun u hu => by
    have := parse_any D hDs u (ht.kept hu)
    rw [hP, hE] at this; exact this)
  have HW8 := Lib.hid (show ∀ u, Kept w u → Calls Tryd.prog 6 #[] u fun e v => e = .returned (.bool true) ∧ Kept u v from fun u hu => haw u (ht.kept hu))
  have hE0 : E = 0 := by rw [← hE, hDl]; exact hz
  subst hE0
  have hokP : okB P = true := by rw [← hP, hDl]; exact hok
  have hbP : bodyL P = t.data.toList := by rw [← hP, hDl]; exact hb
  have hr : Hid (restB P = true) := Lib.hid (ok_rest hokP)
  have hDP : Hid ((⟨(CrM.sealed (bodyL P)).toArray⟩ : ByteArray) = D) := Lib.hid (by rw [hbP]; exact hD.out)
  have HC := Lib.hid (show ∀ u, Kept w u → Calls Tryd.prog 11 #[.agg P.arr] u fun e v => e = .returned (.string D) ∧ Kept u v from fun u hu => code_pk hr hDP (ht.kept hu))
  have HR := Lib.hid (show ∀ u, Calls Tryd.prog 8 #[.agg P.arr] u fun e v => e = .returned (.bool true) ∧ Kept u v from fun u => okp_as (Lib.hid hokP))
  clear haw ht hD hDl hDs hP hE hok hb hz hokP hbP hr hDP
  go_enter Tryd.func4, Tryd.ntmps4
  go_upto_region 4 with (first
    | (go_at_call 14; refine (HS.out _).mono ?_; rintro e u1 ⟨rfl, hk1⟩)
    | (go_at_call 12; refine (HP.out _ hk1).mono ?_; rintro e u2 ⟨rfl, hk2⟩)
    | (refine store_new rfl 27 (.tmp 3) (.tmp 14) rfl u2.heap.size P.arr rfl rfl u2 _ rfl 23 info_pk rfl rfl (by kernel_rfl) ?_))
  have hK3 : Kept w (u2.alloc (.cells P.arr 27)) := (hk1.trans hk2).more _
  have hq3 := blk_new u2 (.cells P.arr 27)
  go_wp2_with (first
    | (go_at_call 11; refine (HC.out _ hK3).mono ?_; rintro e u4 ⟨rfl, hk4⟩; have hK4 := hK3.trans hk4; have hq4 := kept_blk hk4 hq3)
    | (go_at_call 14; refine (HS.out _).mono ?_; rintro e u5 ⟨rfl, hk5⟩; have hK5 := hK4.trans hk5; have hq5 := kept_blk hk5 hq4)
    | (go_at_call 8; refine (HR.out _).mono ?_; rintro e u6 ⟨rfl, hk6⟩; have hK6 := hK5.trans hk6)
    | (go_at_call 6; refine (HW8.out _ hK6).mono ?_; rintro e v ⟨rfl, hv⟩)
    | (refine load_g (.tmp 3) rfl (u2.heap.size) rfl rfl P hq3 ?_)
    | (refine load_g (.tmp 3) rfl (u2.heap.size) rfl rfl P hq5 ?_))
  go_ret
  exact ⟨rfl, hK6.trans hv⟩

theorem prs_once {l : List UInt8} (hz : prsE (CrM.sealed l) = 0) : okB (prsP (CrM.sealed l)) = true ∧ bodyL (prsP (CrM.sealed l)) = l := by
  obtain ⟨o1, o2⟩ := open_sealed l
  by_cases h2 : endV (bodS (Cr.openT (CrM.sealed l), 0)) = 0
  · cases h3 : okB (bodP (Cr.openT (CrM.sealed l), 0)) with
    | false => rw [(prs_arg o1 h2 h3).2] at hz; exact absurd hz (by decide)
    | true =>
      rw [(prs_ok o1 h2 h3).1]
      refine ⟨h3, ?_⟩
      rw [o2] at h2 ⊢
      exact body_on h2
  · rw [(prs_bad o1 h2).2] at hz; exact absurd hz h2
theorem cut300 (s : ByteArray) (h : 300 < s.size) : ∃ t : ByteArray, (∀ u, (Instr.slice 9 (.string s) none (some (.int .i64 300)) none).run Tryd.prog u = .ok (.string t) u) ∧ t.size ≤ 300 := by
  refine ⟨s.extract 0 300, fun u => ?_, by simp; omega⟩
  rw [run_slice_string_to_if u 9 s .i64 _ Tryd.underlying9, if_pos ⟨by omega, by omega⟩]; rfl
theorem once_any (s : ByteArray) (w : World) (ht : Cr.Tab w) (haw : ∀ u, Cr.Tab u → Calls Tryd.prog 6 #[] u fun e v => e = .returned (.bool true) ∧ Kept u v) : Calls Tryd.prog 4 #[.string s] w fun e w' => e = .returned (.bool true) ∧ Kept w w' := by
  by_cases hs : 300 < s.size
  · obtain ⟨t, htt, h3⟩ := cut300 s hs
    by_cases hz : prsE (CrM.sealed t.data.toList) = 0
    · obtain ⟨a, b⟩ := prs_once hz
      exact once_yes_l s t w ht haw hs htt h3 a b hz
    · exact once_no_l s t w ht haw hs htt h3 hz
  · by_cases hz : prsE (CrM.sealed s.data.toList) = 0
    · obtain ⟨a, b⟩ := prs_once hz
      exact once_yes_s s s w ht haw hs rfl (by omega) a b hz
    · exact once_no_s s s w ht haw hs rfl (by omega) hz

end Go.Proofs.YtpgfaklnbehmhaaDoor.Pk
