/- The law of layer 8: a changed byte is found. -/
import Derived.Test.YtpgfaklnbehmhaaDoorPkL
import Derived.Deep.Cut
namespace Go.Proofs.YtpgfaklnbehmhaaDoor.Pk
open Go.RowKit Go.Sort St BsM IdM PkM
open Go.Proofs.YtpgfaklnbehmhaaDoor.Id
open Go.Proofs.YtpgfaklnbehmhaaDoor.Bs (kept_blk)
set_option linter.unusedVariables false

theorem at_lt {w : World} {p : Pk} {u : World} (h : At w p u) : w.heap.size < u.heap.size := blk_lt h.blk

set_option maxRecDepth 100000 in
set_option maxHeartbeats 4000000 in
theorem finds_long (p : Pk) (a : Int) (x : UInt8) (w : World) (ht : Cr.Tab w) (haw : ∀ u, Cr.Tab u → Calls Tryd.prog 6 #[] u fun e v => e = .returned (.bool true) ∧ Kept u v) (h : 60 < p.tm.size) : Calls Tryd.prog 5 #[.agg p.arr, .int .i64 a, .int .u8 (x.toNat : Int)] w fun e w' => e = .returned (.bool true) ∧ Kept w w' := by
  have hA := At.new w p
  have x9 : p.arr[9]? = some (.string p.tm) := rfl
  have HW8 := Lib.hid (show ∀ u, Kept w u → Calls Tryd.prog 6 #[] u fun e v => e = .returned (.bool true) ∧ Kept u v from fun u hu => haw u (ht.kept hu))
  clear haw ht
  go_enter Tryd.func5, Tryd.ntmps5
  go_wp2_with (go_at_call 6; refine (HW8.out _ hA.kept).mono ?_; rintro e v ⟨rfl, hv⟩)
  go_ret
  exact ⟨rfl, hA.kept.trans hv⟩

set_option maxRecDepth 100000 in
set_option maxHeartbeats 4000000 in
theorem finds_no (p : Pk) (a : Int) (x : UInt8) (w : World) (ht : Cr.Tab w) (haw : ∀ u, Cr.Tab u → Calls Tryd.prog 6 #[] u fun e v => e = .returned (.bool true) ∧ Kept u v) (h : ¬ 60 < p.tm.size) (hz : Hid (okB p = false)) : Calls Tryd.prog 5 #[.agg p.arr, .int .i64 a, .int .u8 (x.toNat : Int)] w fun e w' => e = .returned (.bool true) ∧ Kept w w' := by
  have hA := At.new w p
  have x9 : p.arr[9]? = some (.string p.tm) := rfl
  have HW8 := Lib.hid (show ∀ u, Kept w u → Calls Tryd.prog 6 #[] u fun e v => e = .returned (.bool true) ∧ Kept u v from fun u hu => haw u (ht.kept hu))
  have d1 : decide (60 < p.tm.size) = false := by simpa using h
  have d2 : decide ((60 : Int) < (p.tm.size : Int)) = false := by simp; omega
  have HR := Lib.hid (show ∀ u, Calls Tryd.prog 7 #[.agg p.arr] u fun e v => e = .returned (.bool false) ∧ Kept u v from fun u => rok_as hz)
  clear haw ht hz
  go_enter Tryd.func5, Tryd.ntmps5
  go_wp2_with (first
    | (go_at_call 6; refine (HW8.out _ hA1.kept).mono ?_; rintro e v ⟨rfl, hv⟩)
    | (go_at_call 7; refine (HR.out _).mono ?_; rintro e u1 ⟨rfl, hk1⟩; have hA1 := hA.go hk1)
    | (refine load_g (.tmp 3) rfl (w.heap.size) rfl rfl p hA.blk ?_))
  go_ret
  exact ⟨rfl, hA1.kept.trans hv⟩

set_option maxRecDepth 100000 in
set_option maxHeartbeats 4000000 in
theorem finds_zero (p : Pk) (a : Int) (x : UInt8) (w : World) (ht : Cr.Tab w) (haw : ∀ u, Cr.Tab u → Calls Tryd.prog 6 #[] u fun e v => e = .returned (.bool true) ∧ Kept u v) (h : ¬ 60 < p.tm.size) (hz : Hid (okB p = true)) (hx : ((x.toNat : Int) == 0) = true) : Calls Tryd.prog 5 #[.agg p.arr, .int .i64 a, .int .u8 (x.toNat : Int)] w fun e w' => e = .returned (.bool true) ∧ Kept w w' := by
  have hA := At.new w p
  have x9 : p.arr[9]? = some (.string p.tm) := rfl
  have HW8 := Lib.hid (show ∀ u, Kept w u → Calls Tryd.prog 6 #[] u fun e v => e = .returned (.bool true) ∧ Kept u v from fun u hu => haw u (ht.kept hu))
  have d1 : decide (60 < p.tm.size) = false := by simpa using h
  have d2 : decide ((60 : Int) < (p.tm.size : Int)) = false := by simp; omega
  have HR := Lib.hid (show ∀ u, Calls Tryd.prog 7 #[.agg p.arr] u fun e v => e = .returned (.bool true) ∧ Kept u v from fun u => rok_as hz)
  clear haw ht hz
  obtain ⟨X, hX⟩ : ∃ X : Int, (x.toNat : Int) = X := ⟨_, rfl⟩
  rw [hX] at hx ⊢
  clear hX
  go_enter Tryd.func5, Tryd.ntmps5
  go_wp2_with (first
    | (go_at_call 6; refine (HW8.out _ hA1.kept).mono ?_; rintro e v ⟨rfl, hv⟩)
    | (go_at_call 7; refine (HR.out _).mono ?_; rintro e u1 ⟨rfl, hk1⟩; have hA1 := hA.go hk1)
    | (refine load_g (.tmp 3) rfl (w.heap.size) rfl rfl p hA.blk ?_))
  go_ret
  exact ⟨rfl, hA1.kept.trans hv⟩

set_option maxRecDepth 100000 in
set_option maxHeartbeats 4000000 in
theorem finds_out (p : Pk) (a : Int) (x : UInt8) (w : World) (ht : Cr.Tab w) (haw : ∀ u, Cr.Tab u → Calls Tryd.prog 6 #[] u fun e v => e = .returned (.bool true) ∧ Kept u v) (h : ¬ 60 < p.tm.size) (hz : Hid (okB p = true)) (hx : ((x.toNat : Int) == 0) = false) (ha : a < 0 ∨ (0 ≤ a ∧ ((CrM.sealed (bodyL p)).length : Int) ≤ a)) : Calls Tryd.prog 5 #[.agg p.arr, .int .i64 a, .int .u8 (x.toNat : Int)] w fun e w' => e = .returned (.bool true) ∧ Kept w w' := by
  have hA := At.new w p
  have x9 : p.arr[9]? = some (.string p.tm) := rfl
  have HW8 := Lib.hid (show ∀ u, Kept w u → Calls Tryd.prog 6 #[] u fun e v => e = .returned (.bool true) ∧ Kept u v from fun u hu => haw u (ht.kept hu))
  have d1 : decide (60 < p.tm.size) = false := by simpa using h
  have d2 : decide ((60 : Int) < (p.tm.size : Int)) = false := by simp; omega
  have HR := Lib.hid (show ∀ u, Calls Tryd.prog 7 #[.agg p.arr] u fun e v => e = .returned (.bool true) ∧ Kept u v from fun u => rok_as hz)
  obtain ⟨D, hD, hDs, hDl, hDn⟩ := code_named p
  have hr : Hid (restB p = true) := Lib.hid (ok_rest hz.out)
  have HC := Lib.hid (show ∀ u, Kept w u → Calls Tryd.prog 11 #[.agg p.arr] u fun e v => e = .returned (.string D) ∧ Kept u v from fun u hu => code_pk hr hD (ht.kept hu))
  have ha' : a < 0 ∨ (0 ≤ a ∧ (D.size : Int) ≤ a) := by rw [hDn.out]; exact ha
  obtain ⟨X, hX⟩ : ∃ X : Int, (x.toNat : Int) = X := ⟨_, rfl⟩
  rw [hX] at hx ⊢
  clear hX haw ht hz hr hD hDl hDn ha
  rcases ha' with ha | ⟨ha0, ha⟩
  all_goals
    go_enter Tryd.func5, Tryd.ntmps5
    go_wp2_with (first
      | (go_at_call 6; refine (HW8.out _ hA2.kept).mono ?_; rintro e v ⟨rfl, hv⟩)
      | (go_at_call 11; refine (HC.out _ hA1.kept).mono ?_; rintro e u2 ⟨rfl, hk2⟩; have hA2 := hA1.go hk2)
      | (go_at_call 7; refine (HR.out _).mono ?_; rintro e u1 ⟨rfl, hk1⟩; have hA1 := hA.go hk1)
      | (refine load_g (.tmp 3) rfl (w.heap.size) rfl rfl p hA.blk ?_)
      | (refine load_g (.tmp 3) rfl (w.heap.size) rfl rfl p hA1.blk ?_))
    go_ret
    exact ⟨rfl, hA2.kept.trans hv⟩

set_option maxRecDepth 100000 in
set_option maxHeartbeats 4000000 in
theorem finds_in (p : Pk) (a : Int) (x : UInt8) (w : World) (ht : Cr.Tab w) (haw : ∀ u, Cr.Tab u → Calls Tryd.prog 6 #[] u fun e v => e = .returned (.bool true) ∧ Kept u v) (h : ¬ 60 < p.tm.size) (hz : Hid (okB p = true)) (hx0 : x ≠ 0) (hx : ((x.toNat : Int) == 0) = false) (i : Nat) (hai : a = i) (hi : i < (CrM.sealed (bodyL p)).length) : Calls Tryd.prog 5 #[.agg p.arr, .int .i64 a, .int .u8 (x.toNat : Int)] w fun e w' => e = .returned (.bool true) ∧ Kept w w' := by
  have hA := At.new w p
  have x9 : p.arr[9]? = some (.string p.tm) := rfl
  have HW8 := Lib.hid (show ∀ u, Kept w u → Calls Tryd.prog 6 #[] u fun e v => e = .returned (.bool true) ∧ Kept u v from fun u hu => haw u (ht.kept hu))
  have d1 : decide (60 < p.tm.size) = false := by simpa using h
  have d2 : decide ((60 : Int) < (p.tm.size : Int)) = false := by simp; omega
  have HR := Lib.hid (show ∀ u, Calls Tryd.prog 7 #[.agg p.arr] u fun e v => e = .returned (.bool true) ∧ Kept u v from fun u => rok_as hz)
  obtain ⟨D, hD, hDs, hDl, hDn⟩ := code_named p
  have hr : Hid (restB p = true) := Lib.hid (ok_rest hz.out)
  have HC := Lib.hid (show ∀ u, Kept w u → Calls Tryd.prog 11 #[.agg p.arr] u fun e v => e = .returned (.string D) ∧ Kept u v from fun u hu => code_pk hr hD (ht.kept hu))
  subst hai
  have hi' : i < D.size := by rw [hDn.out]; exact hi
  obtain ⟨G, hG⟩ : ∃ G : ByteArray, Hid ((⟨(CrM.chg D.data.toList i x).toArray⟩ : ByteArray) = G) := ⟨_, rfl⟩
  have hGl : G.data.toList = CrM.chg (CrM.sealed (bodyL p)) i x := by rw [← hG.out, ← hDl.out]
  have hGs : G.size ≤ 5000 := by rw [size_list, hGl, CrM.chg_len, ← hDn.out]; omega
  have hno : Cr.openOk G.data.toList = false := by rw [hGl]; exact open_changed _ _ _ hi hx0
  have hpr := prs_sum hno
  have HG := Lib.hid (show ∀ u, Calls Tryd.prog 15 #[.string D, .int .i64 (i : Int), .int .u8 (x.toNat : Int)] u fun e v => e = .returned (.string G) ∧ Kept u v from fun u => by
    have := Cr.changed_any D (by omega) i x u
    rw [hG.out] at this; exact this)
  have HP := Lib.hid (show ∀ u, Kept w u → Calls Tryd.prog 12 #[.string G] u fun e v => e = .returned (.tuple #[.agg Pk.none.arr, .int .i64 4]) ∧ Kept u v from fun u hu => by
    have := parse_any G hGs u (ht.kept hu)
    rw [hpr.1, hpr.2] at this; exact this)
  have he : ∀ u, (binOp .eql 27 (.agg Pk.none.arr) (.agg #[.int .i64 0, .int .i64 0, .int .i64 0, .int .i64 0, .int .i64 0, .int .i64 0, .int .i64 0, .int .i64 0, .int .i64 0, .string ⟨#[]⟩, .int .i64 0, .int .i64 0, .int .i64 0, .int .i64 0, .int .i64 0, .int .i64 0, .int .i64 0, .int .i64 0, .int .i64 0, .int .i64 0, .int .i64 0, .bool false, .int .i64 0])).run Tryd.prog u = .ok (.bool true) u := fun u => by have := eql_run Pk.none Pk.none u; rw [same_self] at this; exact this
  obtain ⟨N, hNN⟩ : ∃ N : Pk, Pk.none = N := ⟨_, rfl⟩
  rw [hNN] at HP he
  obtain ⟨X, hX⟩ : ∃ X : Int, (x.toNat : Int) = X := ⟨_, rfl⟩
  rw [hX] at hx HG ⊢
  clear hX haw ht hz hr hD hDl hDn hi hG hGl hGs hno hpr hx0 hNN
  go_enter Tryd.func5, Tryd.ntmps5
  go_upto_region 7 with (first
    | (go_at_call 11; refine (HC.out _ hA1.kept).mono ?_; rintro e u2 ⟨rfl, hk2⟩; have hA2 := hA1.go hk2)
    | (go_at_call 7; refine (HR.out _).mono ?_; rintro e u1 ⟨rfl, hk1⟩; have hA1 := hA.go hk1)
    | (go_at_call 15; refine (HG.out _).mono ?_; rintro e u3 ⟨rfl, hk3⟩; have hA3 := hA2.go hk3)
    | (go_at_call 12; refine (HP.out _ hA3.kept).mono ?_; rintro e u4 ⟨rfl, hk4⟩; have hA4 := hA3.go hk4)
    | (refine load_g (.tmp 3) rfl (w.heap.size) rfl rfl p hA.blk ?_)
    | (refine load_g (.tmp 3) rfl (w.heap.size) rfl rfl p hA1.blk ?_)
    | (refine store_new rfl 27 (.tmp 8) (.tmp 41) rfl u4.heap.size N.arr rfl rfl u4 _ rfl 23 info_pk rfl rfl (by kernel_rfl) ?_))
  have hA5 : At w p (u4.alloc (.cells N.arr 27)) := hA4.go (Kept.one _ _)
  have hq5 := blk_new u4 (.cells N.arr 27)
  go_wp2_with (first
    | (go_at_call 6; refine (HW8.out _ hA5.kept).mono ?_; rintro e v ⟨rfl, hv⟩)
    | (refine load_g (.tmp 8) rfl (u4.heap.size) rfl rfl N hq5 ?_))
  go_ret
  exact ⟨rfl, hA5.kept.trans hv⟩

theorem finds_any (p : Pk) (a : Int) (x : UInt8) (w : World) (ht : Cr.Tab w) (haw : ∀ u, Cr.Tab u → Calls Tryd.prog 6 #[] u fun e v => e = .returned (.bool true) ∧ Kept u v) : Calls Tryd.prog 5 #[.agg p.arr, .int .i64 a, .int .u8 (x.toNat : Int)] w fun e w' => e = .returned (.bool true) ∧ Kept w w' := by
  by_cases h : 60 < p.tm.size
  · exact finds_long p a x w ht haw h
  · cases hz : okB p with
    | false => exact finds_no p a x w ht haw h (Lib.hid hz)
    | true =>
      by_cases hx : x = 0
      · exact finds_zero p a x w ht haw h (Lib.hid hz) (by rw [hx]; rfl)
      · have hx1 : ((x.toNat : Int) == 0) = false := by
          have : x.toNat ≠ 0 := fun e => hx (UInt8.toNat_inj.mp e)
          simp; omega
        by_cases ha : a < 0
        · exact finds_out p a x w ht haw h (Lib.hid hz) hx1 (.inl ha)
        · by_cases hl : ((CrM.sealed (bodyL p)).length : Int) ≤ a
          · exact finds_out p a x w ht haw h (Lib.hid hz) hx1 (.inr ⟨by omega, hl⟩)
          · exact finds_in p a x w ht haw h (Lib.hid hz) hx hx1 a.toNat (by omega) (by omega)

end Go.Proofs.YtpgfaklnbehmhaaDoor.Pk
