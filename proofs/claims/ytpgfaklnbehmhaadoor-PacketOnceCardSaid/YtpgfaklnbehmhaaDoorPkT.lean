/- The law of layer 8: whether a packet may be, its bytes, and what is parsed, are the document's. -/
import Derived.Test.YtpgfaklnbehmhaaDoorPkL
import Derived.Deep.Cut
namespace Go.Proofs.YtpgfaklnbehmhaaDoor.Pk
open Go.RowKit Go.Sort St BsM IdM PkM
open Go.Proofs.YtpgfaklnbehmhaaDoor.Id
open Go.Proofs.YtpgfaklnbehmhaaDoor.Bs (kept_blk)
set_option linter.unusedVariables false

set_option maxRecDepth 100000 in
set_option maxHeartbeats 4000000 in
theorem tells_long (p : Pk) (hN : Nm p) (w : World) (ht : Cr.Tab w) (haw : ∀ u, Cr.Tab u → Calls Tryd.prog 6 #[] u fun e v => e = .returned (.bool true) ∧ Kept u v) (h : 60 < p.tm.size) : Calls Tryd.prog 3 #[.agg p.arr] w fun e w' => e = .returned (.bool true) ∧ Kept w w' := by
  have hA := At.new w p
  have x9 : p.arr[9]? = some (.string p.tm) := rfl
  have HW8 := Lib.hid (show ∀ u, Kept w u → Calls Tryd.prog 6 #[] u fun e v => e = .returned (.bool true) ∧ Kept u v from fun u hu => haw u (ht.kept hu))
  clear haw ht hN
  go_enter Tryd.func3, Tryd.ntmps3
  go_wp2_with (go_at_call 6; refine (HW8.out _ hA.kept).mono ?_; rintro e v ⟨rfl, hv⟩)
  go_ret
  exact ⟨rfl, hA.kept.trans hv⟩

set_option maxRecDepth 100000 in
set_option maxHeartbeats 4000000 in
theorem tells_no (p : Pk) (hN : Nm p) (w : World) (ht : Cr.Tab w) (haw : ∀ u, Cr.Tab u → Calls Tryd.prog 6 #[] u fun e v => e = .returned (.bool true) ∧ Kept u v) (h : ¬ 60 < p.tm.size) (hz : Hid (okB p = false)) : Calls Tryd.prog 3 #[.agg p.arr] w fun e w' => e = .returned (.bool true) ∧ Kept w w' := by
  obtain ⟨z, hzz⟩ : ∃ z, false = z := ⟨_, rfl⟩
  rw [hzz] at hz
  have hA := At.new w p
  have x9 : p.arr[9]? = some (.string p.tm) := rfl
  have HW8 := Lib.hid (show ∀ u, Kept w u → Calls Tryd.prog 6 #[] u fun e v => e = .returned (.bool true) ∧ Kept u v from fun u hu => haw u (ht.kept hu))
  have HR := Lib.hid (show ∀ u, Calls Tryd.prog 7 #[.agg p.arr] u fun e v => e = .returned (.bool z) ∧ Kept u v from fun u => rok_as hz)
  have he := neq_run (clean p) (clean p)
  rw [same_self] at he
  have h' : ¬ 60 < p.tm.size := h
  clear haw ht hN h
  subst hzz
  go_enter Tryd.func3, Tryd.ntmps3
  go_upto_region 4 with (first
    | (go_at_call 7; refine (HR.out _).mono ?_; rintro e u1 ⟨rfl, hk1⟩; have hA1 := hA.go hk1)
    | (refine load_g (.tmp 1) rfl (w.heap.size) rfl rfl p hA.blk ?_))
  have hl := load_regrown hA1.blk
  have Q1 := quiet_at (Kept.refl u1) (fun x hx => okp_as hz (w := x))
  have Q2 := quiet_at (Kept.refl u1) (fun x hx => clean_any p x)
  have Q3 := quiet_at (Kept.refl u1) (fun x hx => rclean_any p x)
  refine wp_region_quiet_below (by kernel_rfl) (by kernel_rfl) ?_
  repeat (first | (go_big_quiet_want; refine quiet_row 27 (.tmp 1) rfl w.heap.size rfl p.arr hl.out ?_; simp only [Act.put, List.setIfInBounds_toArray, List.set_cons_succ, List.set_cons_zero]; go_big_quiet_on) | go_big_quiet_step (first | (with_reducible exact Q1.out _) | (with_reducible exact Q2.out _) | (with_reducible exact Q3.out _)))
  refine wpQuiet_nil ?_
  intro _ hw'
  obtain ⟨⟨dq, osq⟩, hw''⟩ := hw'
  subst hw''
  have hA2 : At w p (grow (redrawn u1 dq) osq) := hA1.go (below_regrown u1 dq osq)
  obtain ⟨u2, hu⟩ : ∃ u, grow (redrawn u1 dq) osq = u := ⟨_, rfl⟩
  rw [hu] at hA2 ⊢
  clear hu hl he Q1 Q2 Q3 hA1
  go_wp2_with (go_at_call 6; refine (HW8.out _ hA2.kept).mono ?_; rintro e v ⟨rfl, hv⟩)
  go_ret
  exact ⟨rfl, hA2.kept.trans hv⟩

set_option maxRecDepth 100000 in
set_option maxHeartbeats 4000000 in
theorem tells_yes (p : Pk) (hN : Nm p) (w : World) (ht : Cr.Tab w) (haw : ∀ u, Cr.Tab u → Calls Tryd.prog 6 #[] u fun e v => e = .returned (.bool true) ∧ Kept u v) (h : ¬ 60 < p.tm.size) (hz : Hid (okB p = true)) : Calls Tryd.prog 3 #[.agg p.arr] w fun e w' => e = .returned (.bool true) ∧ Kept w w' := by
  obtain ⟨z, hzz⟩ : ∃ z, true = z := ⟨_, rfl⟩
  rw [hzz] at hz
  have hA := At.new w p
  have x9 : p.arr[9]? = some (.string p.tm) := rfl
  have HW8 := Lib.hid (show ∀ u, Kept w u → Calls Tryd.prog 6 #[] u fun e v => e = .returned (.bool true) ∧ Kept u v from fun u hu => haw u (ht.kept hu))
  have HR := Lib.hid (show ∀ u, Calls Tryd.prog 7 #[.agg p.arr] u fun e v => e = .returned (.bool z) ∧ Kept u v from fun u => rok_as hz)
  have he := neq_run (clean p) (clean p)
  rw [same_self] at he
  have h' : ¬ 60 < p.tm.size := h
  subst hzz
  obtain ⟨D, hD, hDs, hDl, hDn⟩ := code_named p
  have hp := prs_code hz.out (by rw [← size_list]; omega)
  rw [← hDl.out] at hp
  have hr : Hid (restB p = true) := Lib.hid (ok_rest hz.out)
  have HC := Lib.hid (show ∀ u, Kept w u → Calls Tryd.prog 11 #[.agg p.arr] u fun e v => e = .returned (.string D) ∧ Kept u v from fun u hu => code_pk hr hD (ht.kept hu))
  have HP := Lib.hid (show ∀ u, Kept w u → Calls Tryd.prog 12 #[.string D] u fun e v => e = .returned (.tuple #[.agg p.arr, .int .i64 0]) ∧ Kept u v from fun u hu => by
    have := parse_any D (by omega) u (ht.kept hu)
    rw [hp.1, hp.2] at this; exact this)
  have HD := Lib.hid (show ∀ u, Calls Tryd.prog 13 #[.agg p.arr] u fun e v => e = .returned (.string D) ∧ Kept u v from fun u => rcode_pk hN hr hD)
  have he2 := eql_run p p
  rw [same_self] at he2
  clear haw ht hN h hp hr hD hDl hDn hDs
  go_enter Tryd.func3, Tryd.ntmps3
  go_upto_region 4 with (first
    | (go_at_call 7; refine (HR.out _).mono ?_; rintro e u1 ⟨rfl, hk1⟩; have hA1 := hA.go hk1)
    | (refine load_g (.tmp 1) rfl (w.heap.size) rfl rfl p hA.blk ?_))
  have hl := load_regrown hA1.blk
  have Q1 := quiet_at (Kept.refl u1) (fun x hx => okp_as hz (w := x))
  have Q2 := quiet_at (Kept.refl u1) (fun x hx => clean_any p x)
  have Q3 := quiet_at (Kept.refl u1) (fun x hx => rclean_any p x)
  refine wp_region_quiet_below (by kernel_rfl) (by kernel_rfl) ?_
  repeat (first | (go_big_quiet_want; refine quiet_row 27 (.tmp 1) rfl w.heap.size rfl p.arr hl.out ?_; simp only [Act.put, List.setIfInBounds_toArray, List.set_cons_succ, List.set_cons_zero]; go_big_quiet_on) | go_big_quiet_step (first | (with_reducible exact Q1.out _) | (with_reducible exact Q2.out _) | (with_reducible exact Q3.out _)))
  refine wpQuiet_nil ?_
  intro _ hw'
  obtain ⟨⟨dq, osq⟩, hw''⟩ := hw'
  subst hw''
  have hA2 : At w p (grow (redrawn u1 dq) osq) := hA1.go (below_regrown u1 dq osq)
  obtain ⟨u2, hu⟩ : ∃ u, grow (redrawn u1 dq) osq = u := ⟨_, rfl⟩
  rw [hu] at hA2 ⊢
  clear hu hl he Q1 Q2 Q3 hA1
  go_upto_region 10 with (first
    | (go_at_call 11; refine (HC.out _ hA2.kept).mono ?_; rintro e u3 ⟨rfl, hk3⟩; have hA3 := hA2.go hk3)
    | (go_at_call 12; refine (HP.out _ hA3.kept).mono ?_; rintro e u4 ⟨rfl, hk4⟩; have hA4 := hA3.go hk4)
    | (refine load_g (.tmp 1) rfl (w.heap.size) rfl rfl p hA2.blk ?_)
    | (refine store_new rfl 27 (.tmp 5) (.tmp 33) rfl u4.heap.size p.arr rfl rfl u4 _ rfl 23 info_pk rfl rfl (by kernel_rfl) ?_))
  have hA5 : At w p (u4.alloc (.cells p.arr 27)) := hA4.go (Kept.one _ _)
  have hq5 := blk_new u4 (.cells p.arr 27)
  go_wp2_with (first
    | (go_at_call 13; refine (HD.out _).mono ?_; rintro e u6 ⟨rfl, hk6⟩; have hA6 := hA5.go hk6; have hq6 := kept_blk hk6 hq5)
    | (go_at_call 6; refine (HW8.out _ hA6.kept).mono ?_; rintro e v ⟨rfl, hv⟩)
    | (refine load_g (.tmp 1) rfl (w.heap.size) rfl rfl p hA5.blk ?_)
    | (refine load_g (.tmp 5) rfl (u4.heap.size) rfl rfl p hq6 ?_)
    | (refine load_g (.tmp 1) rfl (w.heap.size) rfl rfl p hA6.blk ?_))
  go_ret
  exact ⟨rfl, hA6.kept.trans hv⟩

theorem tells_any (p : Pk) (hN : Nm p) (w : World) (ht : Cr.Tab w) (haw : ∀ u, Cr.Tab u → Calls Tryd.prog 6 #[] u fun e v => e = .returned (.bool true) ∧ Kept u v) : Calls Tryd.prog 3 #[.agg p.arr] w fun e w' => e = .returned (.bool true) ∧ Kept w w' := by
  by_cases h : 60 < p.tm.size
  · exact tells_long p hN w ht haw h
  · cases hz : okB p with
    | false => exact tells_no p hN w ht haw h (Lib.hid hz)
    | true => exact tells_yes p hN w ht haw h (Lib.hid hz)

end Go.Proofs.YtpgfaklnbehmhaaDoor.Pk
