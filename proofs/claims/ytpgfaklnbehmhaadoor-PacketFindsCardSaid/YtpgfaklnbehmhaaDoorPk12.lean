/- Package packet: what a kind has besides, read of bytes. -/
import Derived.Test.YtpgfaklnbehmhaaDoorPk11
namespace Go.Proofs.YtpgfaklnbehmhaaDoor.Pk
open Go.RowKit Go.Sort St BsM IdM PkM
open Go.Proofs.YtpgfaklnbehmhaaDoor.Id
open Go.Proofs.YtpgfaklnbehmhaaDoor.Bs
set_option linter.unusedVariables false

theorem restP1 {p : Pk} {s : S} (h : p.kind = 1) : restP p s = callP p s ∧ restS p s = callS s := by unfold restP restS; rw [if_pos h, if_pos h]; exact ⟨rfl, rfl⟩
theorem restP2 {p : Pk} {s : S} (h : p.kind = 2) : restP p s = replyP p s ∧ restS p s = flagS (e2 s) := by unfold restP restS; simp [h]
theorem restP3 {p : Pk} {s : S} (h : p.kind = 3) : restP p s = p ∧ restS p s = s := by unfold restP restS; simp [h]
theorem restP4 {p : Pk} {s : S} (h : p.kind = 4) : restP p s = { p with til := numV s 7 } ∧ restS p s = numS s 7 := by unfold restP restS; simp [h]
theorem restP5 {p : Pk} {s : S} (h : p.kind = 5) : restP p s = { p with delay := numV s 7 - 1 } ∧ restS p s = numS s 7 := by unfold restP restS; simp [h]
theorem restP0 {p : Pk} {s : S} (h : p.kind ≠ 1 ∧ p.kind ≠ 2 ∧ p.kind ≠ 3 ∧ p.kind ≠ 4 ∧ p.kind ≠ 5) : restP p s = p ∧ restS p s = failS s 9 := by unfold restP restS; simp [h.1, h.2.1, h.2.2.1, h.2.2.2.1, h.2.2.2.2]
theorem reply_arr (p : Pk) (m1 m2 : Int) (z : Bool) : (((p.arr.setIfInBounds 19 (.int .i64 m1)).setIfInBounds 20 (.int .i64 m2)).setIfInBounds 21 (.bool z)) = ({ p with code := m1, value := m2, more := z } : Pk).arr := by
  unfold Pk.arr; simp only [List.setIfInBounds_toArray, List.set_cons_succ, List.set_cons_zero]
theorem til_arr (p : Pk) (m1 : Int) : (p.arr.setIfInBounds 10 (.int .i64 m1)) = ({ p with til := m1 } : Pk).arr := by
  unfold Pk.arr; simp only [List.setIfInBounds_toArray, List.set_cons_succ, List.set_cons_zero]
theorem delay_arr (p : Pk) (m1 : Int) : (p.arr.setIfInBounds 22 (.int .i64 m1)) = ({ p with delay := m1 } : Pk).arr := by
  unfold Pk.arr; simp only [List.setIfInBounds_toArray, List.set_cons_succ, List.set_cons_zero]

set_option maxRecDepth 100000 in
set_option maxHeartbeats 4000000 in
theorem readrest1 {p : Pk} (hk : p.kind = 1) (b : Nat) (s : S) (w : World) (hrd : Rd w b s) : Calls Tryd.prog 28 #[.agg p.arr, .pointer (some ⟨b, 0, none⟩)] w (Does b w (.agg (restP p s).arr) (restS p s)) := by
  have x0 : p.arr[0]? = some (.int .i64 1) := by rw [← hk]; rfl
  have h0 := Rr.new1 hrd p.arr
  have HC := Lib.hid (show ∀ u, Rr w b w.heap.size (w.heap.size + 1) s p.arr u → Calls Tryd.prog 52 #[.agg p.arr, .pointer (some ⟨b, 0, none⟩)] u fun e v => e = .returned (.agg (callP p s).arr) ∧ Rr w b w.heap.size (w.heap.size + 1) (callS s) p.arr v from
    fun u hu => (readcall_any p b s u hu.rd).mono fun _ _ ⟨he, h1, h2⟩ => ⟨he, hu.go h1 h2⟩)
  have HP := Lib.hid (restP1 (s := s) hk)
  obtain ⟨P, hP⟩ : ∃ P, callP p s = P := ⟨_, rfl⟩
  rw [hP] at HC HP
  have hA := h0.blk
  clear hk hrd hP
  go_enter Tryd.func28, Tryd.ntmps28
  go_upto_region 5 with (fail)
  go_step
  refine wpList_load_row rfl 27 (.tmp 2) rfl w.heap.size rfl 27 p.arr (0, 0) _ hA Tryd.underlying27 rfl info_pk ?_
  go_wp2_with (first
    | (go_at_call 52; (refine (HC.out _ h0).mono ?_); rintro e u ⟨rfl, hr⟩)
    | (refine wpList_store_row rfl 27 (.tmp 4) (.tmp 16) rfl (w.heap.size + 1) P.arr rfl rfl 27 _ hr.res info_pk rfl (by kernel_rfl) ?_))
  obtain ⟨e1, e2⟩ := hr.done P.arr
  refine bodyPost_ret (results_cell_row rfl _ _ (w.heap.size + 1) 27 _ (0, 0) _ rfl (setRow_heap _ _ _ _ _ _ hr.res) Tryd.underlying27 rfl info_pk) rfl ?_
  exact ⟨by rw [HP.out.1], by rw [HP.out.2]; exact e1, e2⟩

set_option maxRecDepth 100000 in
set_option maxHeartbeats 4000000 in
theorem readrest2 {p : Pk} (hk : p.kind = 2) (b : Nat) (s : S) (w : World) (hrd : Rd w b s) : Calls Tryd.prog 28 #[.agg p.arr, .pointer (some ⟨b, 0, none⟩)] w (Does b w (.agg (restP p s).arr) (restS p s)) := by
  have x0 : p.arr[0]? = some (.int .i64 2) := by rw [← hk]; rfl
  have h0 := Rr.new1 hrd p.arr
  obtain ⟨m1, hm1⟩ : ∃ x : Int, Hid ((numV s 1 : Int) = x) := ⟨_, rfl⟩
  obtain ⟨m2, hm2⟩ : ∃ x : Int, Hid ((numV (c1 s) 4 : Int) = x) := ⟨_, rfl⟩
  obtain ⟨z, hz⟩ : ∃ x : Bool, Hid (flagV (e2 s) = x) := ⟨_, rfl⟩
  have t1 : Hid (numS s 1 = c1 s) := rfl
  have t2 : Hid (numS (c1 s) 4 = e2 s) := rfl
  obtain ⟨s3, t3⟩ : ∃ x, Hid (flagS (e2 s) = x) := ⟨_, rfl⟩
  have HP := Lib.hid (show restP p s = ({ p with code := m1, value := m2, more := z } : Pk) ∧ restS p s = s3 by rw [(restP2 hk).1, (restP2 hk).2]; unfold replyP; rw [hm1.out, hm2.out, hz.out, t3.out]; exact ⟨rfl, rfl⟩)
  clear hk hrd
  go_enter Tryd.func28, Tryd.ntmps28
  go_upto_region 13 with (first
    | (go_at_call 51; (first
        | ((with_reducible refine (num_rr hm1 t1 h0).mono ?_); rintro e u1 ⟨rfl, hr1⟩)
        | ((with_reducible refine (num_rr hm2 t2 hr1).mono ?_); rintro e u2 ⟨rfl, hr2⟩)))
    | (go_at_call 53; (with_reducible refine (flag_rr hz t3 hr2).mono ?_); rintro e u3 ⟨rfl, hr3⟩; have g19 : u3.cell? ⟨w.heap.size, 19, none⟩ = some (.int .i64 p.code) := hr3.at 19; have f19 := hr3.may 19; have g20 : u3.cell? ⟨w.heap.size, 20, none⟩ = some (.int .i64 p.value) := hr3.at 20; have f20 := hr3.may 20; have g21 : u3.cell? ⟨w.heap.size, 21, none⟩ = some (.bool p.more) := hr3.at 21; have f21 := hr3.may 21))
  have hZ := ((hr3.set 19 (.int .i64 m1)).set 20 (.int .i64 m2)).set 21 (.bool z)
  rw [reply_arr] at hZ
  obtain ⟨P, hPP⟩ : ∃ P : Pk, ({ p with code := m1, value := m2, more := z } : Pk) = P := ⟨_, rfl⟩
  rw [hPP] at hZ HP
  clear hPP
  go_step
  refine wpList_load_row rfl 27 (.tmp 2) rfl (w.heap.size) rfl 27 P.arr (0, 0) _ hZ.blk Tryd.underlying27 rfl info_pk ?_
  refine wpList_store_row rfl 27 (.tmp 4) (.tmp 41) rfl (w.heap.size + 1) _ rfl rfl 27 _ hZ.res info_pk rfl ?h1 ?_
  case h1 => kernel_rfl
  go_wp2_with fail
  obtain ⟨e1, e2⟩ := hZ.done P.arr
  refine bodyPost_ret (results_cell_row rfl _ _ (w.heap.size + 1) 27 _ (0, 0) _ rfl (setRow_heap _ _ _ _ _ _ hZ.res) Tryd.underlying27 rfl info_pk) rfl ?_
  exact ⟨by rw [HP.out.1], by rw [HP.out.2]; exact e1, e2⟩

set_option maxRecDepth 100000 in
set_option maxHeartbeats 4000000 in
theorem readrest4 {p : Pk} (hk : p.kind = 4) (b : Nat) (s : S) (w : World) (hrd : Rd w b s) : Calls Tryd.prog 28 #[.agg p.arr, .pointer (some ⟨b, 0, none⟩)] w (Does b w (.agg (restP p s).arr) (restS p s)) := by
  have x0 : p.arr[0]? = some (.int .i64 4) := by rw [← hk]; rfl
  have h0 := Rr.new1 hrd p.arr
  obtain ⟨m1, hm1⟩ : ∃ x : Int, Hid ((numV s 7 : Int) = x) := ⟨_, rfl⟩
  have t1 : Hid (numS s 7 = numS s 7) := Lib.hid rfl
  have hlt := numV_lt s 7
  have hm0 : 0 ≤ m1 := by rw [← hm1.out]; omega
  have hm9 : m1 < 72057594037927936 := by rw [← hm1.out]; omega
  have HP := Lib.hid (show restP p s = ({ p with til := m1 } : Pk) ∧ restS p s = numS s 7 by rw [(restP4 hk).1, (restP4 hk).2, hm1.out]; exact ⟨rfl, rfl⟩)
  clear hk hrd hlt
  go_enter Tryd.func28, Tryd.ntmps28
  go_upto_region 13 with (go_at_call 51; (with_reducible refine (num_rr hm1 t1 h0).mono ?_); rintro e u1 ⟨rfl, hr1⟩; have g10 : u1.cell? ⟨w.heap.size, 10, none⟩ = some (.int .i64 p.til) := hr1.at 10; have f10 := hr1.may 10)
  have hZ := hr1.set 10 (.int .i64 m1)
  rw [til_arr] at hZ
  obtain ⟨P, hPP⟩ : ∃ P : Pk, ({ p with til := m1 } : Pk) = P := ⟨_, rfl⟩
  rw [hPP] at hZ HP
  clear hPP
  go_step
  refine wpList_load_row rfl 27 (.tmp 2) rfl (w.heap.size) rfl 27 P.arr (0, 0) _ hZ.blk Tryd.underlying27 rfl info_pk ?_
  refine wpList_store_row rfl 27 (.tmp 4) (.tmp 41) rfl (w.heap.size + 1) _ rfl rfl 27 _ hZ.res info_pk rfl ?h1 ?_
  case h1 => kernel_rfl
  go_wp2_with fail
  obtain ⟨e1, e2⟩ := hZ.done P.arr
  refine bodyPost_ret (results_cell_row rfl _ _ (w.heap.size + 1) 27 _ (0, 0) _ rfl (setRow_heap _ _ _ _ _ _ hZ.res) Tryd.underlying27 rfl info_pk) rfl ?_
  exact ⟨by rw [HP.out.1], by rw [HP.out.2]; exact e1, e2⟩

set_option maxRecDepth 100000 in
set_option maxHeartbeats 4000000 in
theorem readrest5 {p : Pk} (hk : p.kind = 5) (b : Nat) (s : S) (w : World) (hrd : Rd w b s) : Calls Tryd.prog 28 #[.agg p.arr, .pointer (some ⟨b, 0, none⟩)] w (Does b w (.agg (restP p s).arr) (restS p s)) := by
  have x0 : p.arr[0]? = some (.int .i64 5) := by rw [← hk]; rfl
  have h0 := Rr.new1 hrd p.arr
  obtain ⟨m1, hm1⟩ : ∃ x : Int, Hid ((numV s 7 : Int) = x) := ⟨_, rfl⟩
  have t1 : Hid (numS s 7 = numS s 7) := Lib.hid rfl
  have hlt := numV_lt s 7
  have hm0 : 0 ≤ m1 := by rw [← hm1.out]; omega
  have hm9 : m1 < 72057594037927936 := by rw [← hm1.out]; omega
  have HP := Lib.hid (show restP p s = ({ p with delay := (m1 - 1) } : Pk) ∧ restS p s = numS s 7 by rw [(restP5 hk).1, (restP5 hk).2, hm1.out]; exact ⟨rfl, rfl⟩)
  clear hk hrd hlt
  go_enter Tryd.func28, Tryd.ntmps28
  go_upto_region 13 with (go_at_call 51; (with_reducible refine (num_rr hm1 t1 h0).mono ?_); rintro e u1 ⟨rfl, hr1⟩; have g22 : u1.cell? ⟨w.heap.size, 22, none⟩ = some (.int .i64 p.delay) := hr1.at 22; have f22 := hr1.may 22)
  have hZ := hr1.set 22 (.int .i64 (m1 - 1))
  rw [delay_arr] at hZ
  obtain ⟨P, hPP⟩ : ∃ P : Pk, ({ p with delay := (m1 - 1) } : Pk) = P := ⟨_, rfl⟩
  rw [hPP] at hZ HP
  clear hPP
  go_step
  refine wpList_load_row rfl 27 (.tmp 2) rfl (w.heap.size) rfl 27 P.arr (0, 0) _ hZ.blk Tryd.underlying27 rfl info_pk ?_
  refine wpList_store_row rfl 27 (.tmp 4) (.tmp 41) rfl (w.heap.size + 1) _ rfl rfl 27 _ hZ.res info_pk rfl ?h1 ?_
  case h1 => kernel_rfl
  go_wp2_with fail
  obtain ⟨e1, e2⟩ := hZ.done P.arr
  refine bodyPost_ret (results_cell_row rfl _ _ (w.heap.size + 1) 27 _ (0, 0) _ rfl (setRow_heap _ _ _ _ _ _ hZ.res) Tryd.underlying27 rfl info_pk) rfl ?_
  exact ⟨by rw [HP.out.1], by rw [HP.out.2]; exact e1, e2⟩

set_option maxRecDepth 100000 in
set_option maxHeartbeats 4000000 in
theorem readrest3 {p : Pk} (hk : p.kind = 3) (b : Nat) (s : S) (w : World) (hrd : Rd w b s) : Calls Tryd.prog 28 #[.agg p.arr, .pointer (some ⟨b, 0, none⟩)] w (Does b w (.agg (restP p s).arr) (restS p s)) := by
  have x0 : p.arr[0]? = some (.int .i64 3) := by rw [← hk]; rfl
  have h0 := Rr.new1 hrd p.arr
  have HP := Lib.hid (restP3 (s := s) hk)
  obtain ⟨P, hPP⟩ : ∃ P : Pk, p = P := ⟨_, rfl⟩
  subst hPP
  have hZ := h0
  clear hk hrd
  go_enter Tryd.func28, Tryd.ntmps28
  go_upto_region 13 with (fail)
  go_step
  refine wpList_load_row rfl 27 (.tmp 2) rfl (w.heap.size) rfl 27 p.arr (0, 0) _ hZ.blk Tryd.underlying27 rfl info_pk ?_
  refine wpList_store_row rfl 27 (.tmp 4) (.tmp 41) rfl (w.heap.size + 1) _ rfl rfl 27 _ hZ.res info_pk rfl ?h1 ?_
  case h1 => kernel_rfl
  go_wp2_with fail
  obtain ⟨e1, e2⟩ := hZ.done p.arr
  refine bodyPost_ret (results_cell_row rfl _ _ (w.heap.size + 1) 27 _ (0, 0) _ rfl (setRow_heap _ _ _ _ _ _ hZ.res) Tryd.underlying27 rfl info_pk) rfl ?_
  exact ⟨by rw [HP.out.1], by rw [HP.out.2]; exact e1, e2⟩

set_option maxRecDepth 100000 in
set_option maxHeartbeats 4000000 in
theorem readrest0 {p : Pk} (hk : p.kind ≠ 1 ∧ p.kind ≠ 2 ∧ p.kind ≠ 3 ∧ p.kind ≠ 4 ∧ p.kind ≠ 5) (b : Nat) (s : S) (w : World) (hrd : Rd w b s) : Calls Tryd.prog 28 #[.agg p.arr, .pointer (some ⟨b, 0, none⟩)] w (Does b w (.agg (restP p s).arr) (restS p s)) := by
  have x0 : p.arr[0]? = some (.int .i64 p.kind) := rfl
  have h0 := Rr.new1 hrd p.arr
  have HP := Lib.hid (restP0 (s := s) hk)
  have k1 : (p.kind == 1) = false := by simpa using hk.1
  have k2 : (p.kind == 2) = false := by simpa using hk.2.1
  have k3 : (p.kind == 3) = false := by simpa using hk.2.2.1
  have k4 : (p.kind == 4) = false := by simpa using hk.2.2.2.1
  have k5 : (p.kind == 5) = false := by simpa using hk.2.2.2.2
  have t1 : Hid (failS s 9 = failS s 9) := Lib.hid rfl
  clear hk hrd
  go_enter Tryd.func28, Tryd.ntmps28
  go_upto_region 13 with (go_at_call 54; (with_reducible refine (fail_rr t1 h0).mono ?_); rintro e u1 ⟨rfl, hZ⟩)
  go_step
  refine wpList_load_row rfl 27 (.tmp 2) rfl (w.heap.size) rfl 27 p.arr (0, 0) _ hZ.blk Tryd.underlying27 rfl info_pk ?_
  refine wpList_store_row rfl 27 (.tmp 4) (.tmp 41) rfl (w.heap.size + 1) _ rfl rfl 27 _ hZ.res info_pk rfl ?h1 ?_
  case h1 => kernel_rfl
  go_wp2_with fail
  obtain ⟨e1, e2⟩ := hZ.done p.arr
  refine bodyPost_ret (results_cell_row rfl _ _ (w.heap.size + 1) 27 _ (0, 0) _ rfl (setRow_heap _ _ _ _ _ _ hZ.res) Tryd.underlying27 rfl info_pk) rfl ?_
  exact ⟨by rw [HP.out.1], by rw [HP.out.2]; exact e1, e2⟩

theorem readrest_any (p : Pk) (b : Nat) (s : S) (w : World) (hrd : Rd w b s) : Calls Tryd.prog 28 #[.agg p.arr, .pointer (some ⟨b, 0, none⟩)] w (Does b w (.agg (restP p s).arr) (restS p s)) := by
  rcases kinds p.kind with hk | hk | hk | hk | hk | hk
  · exact readrest1 hk b s w hrd
  · exact readrest2 hk b s w hrd
  · exact readrest3 hk b s w hrd
  · exact readrest4 hk b s w hrd
  · exact readrest5 hk b s w hrd
  · exact readrest0 hk b s w hrd

end Go.Proofs.YtpgfaklnbehmhaaDoor.Pk
