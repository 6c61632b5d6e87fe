/- The document's answer whether a configuration may be. -/
import Derived.Test.YtnloliedmdjakaaAd3
namespace Go.Proofs.Ytnloliedmdjakaa.Ad
open Go.RowKit Go.Sort St PkM IdM
set_option linter.unusedVariables false

/-- where a call on a configuration in a block of its own stands -/
structure Ic (w W : World) (c : Cf) : Prop where
  kept : Kept w W
  bc : W.heap[w.heap.size]? = some (.cells c.arr 24 (0, 0))
theorem Ic.go {w W W' : World} {c : Cf} (h : Ic w W c) (k : Kept W W') : Ic w W' c := ⟨h.kept.trans k, kept_blk k h.bc⟩
theorem Ic.new (w : World) (c : Cf) : ∃ W, w.alloc (.cells c.arr 24) = W ∧ Ic w W c := ⟨_, rfl, Kept.one _ _, blk_new _ _⟩
theorem Ic.atc {w W : World} {c : Cf} (h : Ic w W c) (k : Nat) : W.cell? ⟨w.heap.size, k, none⟩ = c.arr[k]? := blk_cell h.bc k

theorem right_all {c : Cf} (h0 : inB c.nodes 1 64 = true) (h1 : inB c.skew 0 1000 = true) (h2 : inB c.lease 1 1000000 = true) (h3 : inB c.grain 0 6 = true) (h4 : inB c.least 1 1000000 = true) (h5 : inB c.hops 1 16 = true) (h6 : inB c.cap 1 64 = true) (h7 : inB c.fan 1 8 = true) (h8 : inB c.attempts 1 5 = true) (h9 : inB c.base 1 1000000 = true) (h10 : inB c.most 1 1000000 = true) (h11 : inB c.wait 1 1000000 = true) (h12 : inB c.tokens 1 1000 = true) (h13 : inB (c.pn : Int) 1 16 = true) : ∀ m, m < 14 → ∀ n a b, (bnds c)[m]? = some (n, a, b) → inB n a b = true := by
  intro m hm n a b e
  have : m = 0 ∨ m = 1 ∨ m = 2 ∨ m = 3 ∨ m = 4 ∨ m = 5 ∨ m = 6 ∨ m = 7 ∨ m = 8 ∨ m = 9 ∨ m = 10 ∨ m = 11 ∨ m = 12 ∨ m = 13 := by omega
  rcases this with rfl | rfl | rfl | rfl | rfl | rfl | rfl | rfl | rfl | rfl | rfl | rfl | rfl | rfl <;>
    (have e1 := Option.some.inj e; obtain ⟨rfl, e2⟩ := Prod.mk.inj e1; obtain ⟨rfl, rfl⟩ := Prod.mk.inj e2; assumption)

set_option maxRecDepth 100000 in
set_option maxHeartbeats 4000000 in
theorem rright_any (c : Cf) (w : World) : Calls Try.prog 10 #[.agg c.arr] w fun e w' => e = .returned (.bool (right c)) ∧ Kept w w' := by
  obtain ⟨W, hW, hI⟩ := Ic.new w c
  have HW := Lib.hid hW
  have HK := Lib.hid hI.kept
  obtain ⟨z, hz⟩ : ∃ z, right c = z := ⟨_, rfl⟩
  have HZ := Lib.hid hz
  rw [hz]
  have x0 : W.cell? ⟨w.heap.size, 0, none⟩ = some (.int .i64 c.nodes) := hI.atc 0
  have x1 : W.cell? ⟨w.heap.size, 1, none⟩ = some (.int .i64 c.skew) := hI.atc 1
  have x3 : W.cell? ⟨w.heap.size, 3, none⟩ = some (.int .i64 c.grain) := hI.atc 3
  have x5 : W.cell? ⟨w.heap.size, 5, none⟩ = some (.int .i64 c.hops) := hI.atc 5
  have x6 : W.cell? ⟨w.heap.size, 6, none⟩ = some (.int .i64 c.cap) := hI.atc 6
  have x7 : W.cell? ⟨w.heap.size, 7, none⟩ = some (.int .i64 c.fan) := hI.atc 7
  have x8 : W.cell? ⟨w.heap.size, 8, none⟩ = some (.int .i64 c.attempts) := hI.atc 8
  have x12 : W.cell? ⟨w.heap.size, 12, none⟩ = some (.int .i64 c.tokens) := hI.atc 12
  have x13 : W.cell? ⟨w.heap.size, 13, none⟩ = some (.slice c.pa c.pn c.pc) := hI.atc 13
  have x2 : W.cell? ⟨w.heap.size, 2, none⟩ = some (.int .i64 c.lease) := hI.atc 2
  have x4 : W.cell? ⟨w.heap.size, 4, none⟩ = some (.int .i64 c.least) := hI.atc 4
  have x9 : W.cell? ⟨w.heap.size, 9, none⟩ = some (.int .i64 c.base) := hI.atc 9
  have x10 : W.cell? ⟨w.heap.size, 10, none⟩ = some (.int .i64 c.most) := hI.atc 10
  have x11 : W.cell? ⟨w.heap.size, 11, none⟩ = some (.int .i64 c.wait) := hI.atc 11
  obtain ⟨z0, h0⟩ : ∃ z, Hid (inB c.nodes 1 64 = z) := ⟨_, rfl⟩
  obtain ⟨z1, h1⟩ : ∃ z, Hid (inB c.skew 0 1000 = z) := ⟨_, rfl⟩
  obtain ⟨z3, h3⟩ : ∃ z, Hid (inB c.grain 0 6 = z) := ⟨_, rfl⟩
  obtain ⟨z5, h5⟩ : ∃ z, Hid (inB c.hops 1 16 = z) := ⟨_, rfl⟩
  obtain ⟨z6, h6⟩ : ∃ z, Hid (inB c.cap 1 64 = z) := ⟨_, rfl⟩
  obtain ⟨z7, h7⟩ : ∃ z, Hid (inB c.fan 1 8 = z) := ⟨_, rfl⟩
  obtain ⟨z8, h8⟩ : ∃ z, Hid (inB c.attempts 1 5 = z) := ⟨_, rfl⟩
  obtain ⟨z12, h12⟩ : ∃ z, Hid (inB c.tokens 1 1000 = z) := ⟨_, rfl⟩
  obtain ⟨z13, h13⟩ : ∃ z, Hid (inB (c.pn : Int) 1 16 = z) := ⟨_, rfl⟩
  obtain ⟨z2, h2⟩ : ∃ z, Hid (inB c.lease 1 1000000 = z) := ⟨_, rfl⟩
  obtain ⟨z4, h4⟩ : ∃ z, Hid (inB c.least 1 1000000 = z) := ⟨_, rfl⟩
  obtain ⟨z9, h9⟩ : ∃ z, Hid (inB c.base 1 1000000 = z) := ⟨_, rfl⟩
  obtain ⟨z10, h10⟩ : ∃ z, Hid (inB c.most 1 1000000 = z) := ⟨_, rfl⟩
  obtain ⟨z11, h11⟩ : ∃ z, Hid (inB c.wait 1 1000000 = z) := ⟨_, rfl⟩
  clear hW hz hI
  cases z0
  · have hr := Lib.hid (right_no (c := c) (j := 0) rfl h0.out)
    go_enter Try.func10, Try.ntmps10
    go_upto_region 1 with fail
    rw [HW.out]
    go_wp2_with (go_at_call 18; refine (in_as (by assumption)).mono ?_; rintro e w' ⟨rfl, rfl⟩)
    go_ret
    exact ⟨ret_bool (by rw [← HZ.out, hr.out]), HK.out⟩
  cases z1
  · have hr := Lib.hid (right_no (c := c) (j := 1) rfl h1.out)
    go_enter Try.func10, Try.ntmps10
    go_upto_region 1 with fail
    rw [HW.out]
    go_wp2_with (go_at_call 18; refine (in_as (by assumption)).mono ?_; rintro e w' ⟨rfl, rfl⟩)
    go_ret
    exact ⟨ret_bool (by rw [← HZ.out, hr.out]), HK.out⟩
  cases z3
  · have hr := Lib.hid (right_no (c := c) (j := 3) rfl h3.out)
    go_enter Try.func10, Try.ntmps10
    go_upto_region 1 with fail
    rw [HW.out]
    go_wp2_with (go_at_call 18; refine (in_as (by assumption)).mono ?_; rintro e w' ⟨rfl, rfl⟩)
    go_ret
    exact ⟨ret_bool (by rw [← HZ.out, hr.out]), HK.out⟩
  cases z5
  · have hr := Lib.hid (right_no (c := c) (j := 5) rfl h5.out)
    go_enter Try.func10, Try.ntmps10
    go_upto_region 1 with fail
    rw [HW.out]
    go_wp2_with (go_at_call 18; refine (in_as (by assumption)).mono ?_; rintro e w' ⟨rfl, rfl⟩)
    go_ret
    exact ⟨ret_bool (by rw [← HZ.out, hr.out]), HK.out⟩
  cases z6
  · have hr := Lib.hid (right_no (c := c) (j := 6) rfl h6.out)
    go_enter Try.func10, Try.ntmps10
    go_upto_region 1 with fail
    rw [HW.out]
    go_wp2_with (go_at_call 18; refine (in_as (by assumption)).mono ?_; rintro e w' ⟨rfl, rfl⟩)
    go_ret
    exact ⟨ret_bool (by rw [← HZ.out, hr.out]), HK.out⟩
  cases z7
  · have hr := Lib.hid (right_no (c := c) (j := 7) rfl h7.out)
    go_enter Try.func10, Try.ntmps10
    go_upto_region 1 with fail
    rw [HW.out]
    go_wp2_with (go_at_call 18; refine (in_as (by assumption)).mono ?_; rintro e w' ⟨rfl, rfl⟩)
    go_ret
    exact ⟨ret_bool (by rw [← HZ.out, hr.out]), HK.out⟩
  cases z8
  · have hr := Lib.hid (right_no (c := c) (j := 8) rfl h8.out)
    go_enter Try.func10, Try.ntmps10
    go_upto_region 1 with fail
    rw [HW.out]
    go_wp2_with (go_at_call 18; refine (in_as (by assumption)).mono ?_; rintro e w' ⟨rfl, rfl⟩)
    go_ret
    exact ⟨ret_bool (by rw [← HZ.out, hr.out]), HK.out⟩
  cases z12
  · have hr := Lib.hid (right_no (c := c) (j := 12) rfl h12.out)
    go_enter Try.func10, Try.ntmps10
    go_upto_region 1 with fail
    rw [HW.out]
    go_wp2_with (go_at_call 18; refine (in_as (by assumption)).mono ?_; rintro e w' ⟨rfl, rfl⟩)
    go_ret
    exact ⟨ret_bool (by rw [← HZ.out, hr.out]), HK.out⟩
  cases z13
  · have hr := Lib.hid (right_no (c := c) (j := 13) rfl h13.out)
    go_enter Try.func10, Try.ntmps10
    go_upto_region 1 with fail
    rw [HW.out]
    go_wp2_with (go_at_call 18; refine (in_as (by assumption)).mono ?_; rintro e w' ⟨rfl, rfl⟩)
    go_ret
    exact ⟨ret_bool (by rw [← HZ.out, hr.out]), HK.out⟩
  cases z2
  · have hr := Lib.hid (right_no (c := c) (j := 2) rfl h2.out)
    go_enter Try.func10, Try.ntmps10
    go_upto_region 1 with fail
    rw [HW.out]
    go_wp2_with (go_at_call 18; refine (in_as (by assumption)).mono ?_; rintro e w' ⟨rfl, rfl⟩)
    go_ret
    exact ⟨ret_bool (by rw [← HZ.out, hr.out]), HK.out⟩
  cases z4
  · have hr := Lib.hid (right_no (c := c) (j := 4) rfl h4.out)
    go_enter Try.func10, Try.ntmps10
    go_upto_region 1 with fail
    rw [HW.out]
    go_wp2_with (go_at_call 18; refine (in_as (by assumption)).mono ?_; rintro e w' ⟨rfl, rfl⟩)
    go_ret
    exact ⟨ret_bool (by rw [← HZ.out, hr.out]), HK.out⟩
  cases z9
  · have hr := Lib.hid (right_no (c := c) (j := 9) rfl h9.out)
    go_enter Try.func10, Try.ntmps10
    go_upto_region 1 with fail
    rw [HW.out]
    go_wp2_with (go_at_call 18; refine (in_as (by assumption)).mono ?_; rintro e w' ⟨rfl, rfl⟩)
    go_ret
    exact ⟨ret_bool (by rw [← HZ.out, hr.out]), HK.out⟩
  cases z10
  · have hr := Lib.hid (right_no (c := c) (j := 10) rfl h10.out)
    go_enter Try.func10, Try.ntmps10
    go_upto_region 1 with fail
    rw [HW.out]
    go_wp2_with (go_at_call 18; refine (in_as (by assumption)).mono ?_; rintro e w' ⟨rfl, rfl⟩)
    go_ret
    exact ⟨ret_bool (by rw [← HZ.out, hr.out]), HK.out⟩
  cases z11
  · have hr := Lib.hid (right_no (c := c) (j := 11) rfl h11.out)
    go_enter Try.func10, Try.ntmps10
    go_upto_region 1 with fail
    rw [HW.out]
    go_wp2_with (go_at_call 18; refine (in_as (by assumption)).mono ?_; rintro e w' ⟨rfl, rfl⟩)
    go_ret
    exact ⟨ret_bool (by rw [← HZ.out, hr.out]), HK.out⟩
  have hr := Lib.hid (right_end (c := c) (right_all h0.out h1.out h2.out h3.out h4.out h5.out h6.out h7.out h8.out h9.out h10.out h11.out h12.out h13.out))
  go_enter Try.func10, Try.ntmps10
  go_upto_region 1 with fail
  rw [HW.out]
  go_wp2_with (go_at_call 18; refine (in_as (by assumption)).mono ?_; rintro e w' ⟨rfl, rfl⟩)
  go_ret
  exact ⟨ret_bool (by rw [← HZ.out, hr.out]), HK.out⟩

end Go.Proofs.Ytnloliedmdjakaa.Ad
