/- The law 'an alarm is told no earlier than its time, and by a grain later at the most' walked. -/
import Derived.Test.YtckmkagijanbdaaAl8
import Derived.Test.YtckmkagijanbdaaArgN
namespace Go.Proofs.Ytckmkagijanbdaa.Al
open Go.RowKit Go.Sort Tk Wh IdM
open St (Kept blk_cell blk_free blk_lt blk_set)
set_option linter.unusedVariables false

theorem put_one (x : Nm) (c d : Int) : put x c (put x d []) = [(x, c)] := by
  unfold put
  have h : ¬ ltN x x := ltN_irr x
  simp [h]
theorem grain_id {g : Int} (h1 : 1 ≤ g) (h2 : g ≤ 64) : grain g = g := by
  unfold grain; rw [clamp_id g (by omega) (by omega)]; omega
theorem due_yes {g to c : Int} (x : Nm) (h : up c g ≤ to) : dueA g to [(x, c)] = [(x, c)] ∧ restA g to [(x, c)] = [] := by
  have h' : ¬ to < up c g := by omega
  unfold dueA restA; simp [h, h']
theorem due_no {g to c : Int} (x : Nm) (h : ¬ up c g ≤ to) : dueA g to [(x, c)] = [] ∧ restA g to [(x, c)] = [(x, c)] := by
  have h' : to < up c g := by omega
  unfold dueA restA; simp [h, h']

/-- an argument's block, and what a law has beside it -/
theorem far_box {w W : World} {o : Obj} (hW : w.alloc o = W) : Kept w W ∧ W.heap[w.heap.size]? = some o ∧ W.heap.size = w.heap.size + 1 := by
  refine ⟨by rw [← hW]; exact Kept.one _ _, by rw [← hW]; exact St.blk_new _ _, by rw [← hW]; simp⟩

set_option maxHeartbeats 2000000 in
set_option maxRecDepth 100000 in
theorem aexact_any (p : Int) {n i s a k : Int} (hx : okN ⟨n, i, s, a, k⟩) (t again ask : Int) (w : World) :
    Calls Try.prog 4 #[.int .i64 p, .agg #[.int .i64 n, .int .i64 i, .int .i64 s, .int .i64 a, .int .i64 k], .int .i64 t, .int .i64 again, .int .i64 ask] w fun e w' => e = .returned (.bool true) ∧ Kept w w' := by
  obtain ⟨W, hW⟩ : ∃ W, w.alloc (.cells #[.int .i64 n, .int .i64 i, .int .i64 s, .int .i64 a, .int .i64 k] 33) = W := ⟨_, rfl⟩
  obtain ⟨k0, b0, z0⟩ := far_box hW
  have HW := Lib.hid hW
  have HB := Lib.hid b0
  have HX := Lib.hid hx
  have HZ := Lib.hid z0
  obtain ⟨g, hg⟩ : ∃ g, gr p = g := ⟨_, rfl⟩
  obtain ⟨g1, g2, _⟩ := gr_of p
  rw [hg] at g1 g2
  have CN := anew_any (w := W) p
  rw [hg] at CN
  have CN := Lib.hid CN
  clear hW b0 hx z0 hg
  go_enter Try.func4, Try.ntmps4
  go_wp2_with fail
  rw [HW.out]
  refine CN.out.mono ?_
  rintro e w1 ⟨S1, B, rfl, h1, s1, k1⟩
  have A1 : Acc w S1 w1 := ⟨k0.trans k1, fun j c => by have := s1 j c; have := HZ.out; omega⟩
  have b1 : w1.heap[w.heap.size]? = _ := (k1.block _ (blk_lt HB.out)).trans HB.out
  have n1 : ¬ S1 w.heap.size := fun c => by have := s1 _ c; have := HZ.out; omega
  have CG := Lib.hid (grain_al h1)
  have H1 := Lib.hid h1
  have x0 : w1.cell? ⟨w.heap.size, 0, none⟩ = some (.int .i64 n) := by rw [blk_cell b1]; rfl
  have x1 : w1.cell? ⟨w.heap.size, 1, none⟩ = some (.int .i64 i) := by rw [blk_cell b1]; rfl
  have x2 : w1.cell? ⟨w.heap.size, 2, none⟩ = some (.int .i64 s) := by rw [blk_cell b1]; rfl
  have x3 : w1.cell? ⟨w.heap.size, 3, none⟩ = some (.int .i64 a) := by rw [blk_cell b1]; rfl
  have x4 : w1.cell? ⟨w.heap.size, 4, none⟩ = some (.int .i64 k) := by rw [blk_cell b1]; rfl
  have HB1 := Lib.hid b1
  clear b1 k0 k1 CN h1 s1
  go_wp2_with (first | (go_at_call 13; refine CG.out.mono ?_; rintro e w' ⟨rfl, rfl⟩))
  refine (mine_any n i s a k _).mono ?_
  rintro e w2 ⟨rfl, k2⟩
  have CS := Lib.hid (set_room (t := again) (H1.out.kept k2) HX.out (by simp [drop]) (by decide))
  have K2 := Lib.hid k2
  have B2 := Lib.hid ((k2.block _ (blk_lt HB1.out)).trans HB1.out)
  clear k2 x0 x1 x2 x3 x4 CG
  go_wp2_with fail
  refine CS.out.mono ?_
  rintro e w3 ⟨rfl, S3, h3, s3, f3⟩
  have A3 := (A1.go K2.out).step f3 s3
  have b3 := (f3.block _ (blk_lt B2.out) n1).trans B2.out
  have n3 : ¬ S3 w.heap.size := fun c => (s3 _ c).elim n1 (fun c => by have := blk_lt B2.out; omega)
  have x0 : w3.cell? ⟨w.heap.size, 0, none⟩ = some (.int .i64 n) := by rw [blk_cell b3]; rfl
  have x1 : w3.cell? ⟨w.heap.size, 1, none⟩ = some (.int .i64 i) := by rw [blk_cell b3]; rfl
  have x2 : w3.cell? ⟨w.heap.size, 2, none⟩ = some (.int .i64 s) := by rw [blk_cell b3]; rfl
  have x3 : w3.cell? ⟨w.heap.size, 3, none⟩ = some (.int .i64 a) := by rw [blk_cell b3]; rfl
  have x4 : w3.cell? ⟨w.heap.size, 4, none⟩ = some (.int .i64 k) := by rw [blk_cell b3]; rfl
  have H3 := Lib.hid h3
  have B3 := Lib.hid b3
  clear h3 s3 f3 b3 CS A1 n1
  go_wp2_with fail
  refine (mine_any n i s a k _).mono ?_
  rintro e w4 ⟨rfl, k4⟩
  have CS := Lib.hid (set_room (t := t) (H3.out.kept k4) HX.out (by rw [show drop ⟨n, i, s, a, k⟩ (put ⟨n, i, s, a, k⟩ (clamp again) []) = [] by simp [drop, put]]; simp) (by decide))
  have K4 := Lib.hid k4
  clear k4 x0 x1 x2 x3 x4
  go_wp2_with fail
  refine CS.out.mono ?_
  rintro e w5 ⟨rfl, S5, h5, s5, f5⟩
  have A5 := (A3.go K4.out).step f5 s5
  rw [put_one] at h5
  have CL := Lib.hid (len_al h5)
  obtain ⟨c, hc⟩ : ∃ c, clamp t = c := ⟨_, rfl⟩
  obtain ⟨q, hq⟩ : ∃ q, clamp ask = q := ⟨_, rfl⟩
  have c0 := clamp_lo t
  have c1 := clamp_hi t
  have q0 := clamp_lo ask
  have q1 := clamp_hi ask
  have u0 := up_lo t g
  have u1 := up_lt t g
  rw [grain_id g1 g2] at u1
  rw [hc] at c0 c1 u0 u1 h5
  rw [hq] at q0 q1
  obtain ⟨u, hu⟩ : ∃ u, up t g = u := ⟨_, rfl⟩
  have hup : up c g = u := by rw [← hc, up_clamp]; exact hu
  rw [hu] at u0 u1
  have CD := Lib.hid (due_any (to := q) h5 ask (by rw [hq]; omega))
  have TC : ∀ w, Calls Try.prog 18 #[.int .i64 t] w fun e w' => e = .returned (.int .i64 c) ∧ w = w' := fun w => by have := rclamp_any t w; rw [hc] at this; exact this
  have QC : ∀ w, Calls Try.prog 18 #[.int .i64 ask] w fun e w' => e = .returned (.int .i64 q) ∧ w = w' := fun w => by have := rclamp_any ask w; rw [hq] at this; exact this
  have PC : ∀ w, Calls Try.prog 19 #[.int .i64 ask, .int .i64 t, .int .i64 g] w fun e w' => e = .returned (.bool (decide (u ≤ q))) ∧ w = w' := fun w => by
    have := rpast_any ask t g w; unfold past at this; rw [hq, hu] at this; exact this
  have TC := Lib.hid TC
  have QC := Lib.hid QC
  have PC := Lib.hid PC
  have HUP := Lib.hid hup
  clear h5 s5 f5 CS A3 n3 hc hq hu hup
  go_wp2_with (first | (go_at_call 11; refine CL.out.mono ?_; rintro e w' ⟨rfl, rfl⟩))
  refine CD.out.mono ?_
  rintro e w6 ⟨v6, S6, rfl, r6, h6, s6, f6, n6⟩
  have A6 := A5.step f6 s6
  clear CD s6 f6 n6 CL
  by_cases hd : u ≤ q
  · obtain ⟨d1, d2⟩ := due_yes (to := q) ⟨n, i, s, a, k⟩ (by rw [HUP.out]; exact hd)
    rw [d1] at r6
    rw [d2] at h6
    have CL := Lib.hid (len_al h6)
    have hlen := fun ty u => r6.len Try.underlying40 ty u
    have hp : decide (u ≤ q) = true := by simp [hd]
    have HA := Lib.hid A6.kept
    clear d1 d2 r6 h6 A6 A5
    go_wp2_with (first | (go_at_call 11; refine CL.out.mono ?_; rintro e w' ⟨rfl, rfl⟩) | (go_at_call 19; refine (PC.out _).mono ?_; rintro e w' ⟨rfl, rfl⟩) | (go_at_call 18; first | ((with_reducible refine (TC.out _).mono ?_); rintro e w' ⟨rfl, rfl⟩) | ((with_reducible refine (QC.out _).mono ?_); rintro e w' ⟨rfl, rfl⟩)))
    refine (awake_any _).mono ?_
    rintro e w7 ⟨rfl, k7⟩
    go_wp2_with fail
    go_ret
    exact ⟨rfl, HA.out.trans k7⟩
  · obtain ⟨d1, d2⟩ := due_no (to := q) ⟨n, i, s, a, k⟩ (by rw [HUP.out]; exact hd)
    rw [d1] at r6
    rw [d2] at h6
    have CL := Lib.hid (len_al h6)
    have hlen := fun ty u => r6.len Try.underlying40 ty u
    have hp : decide (u ≤ q) = false := by simp; omega
    have HA := Lib.hid A6.kept
    clear d1 d2 r6 h6 A6 A5
    go_wp2_with (first | (go_at_call 11; refine CL.out.mono ?_; rintro e w' ⟨rfl, rfl⟩) | (go_at_call 19; refine (PC.out _).mono ?_; rintro e w' ⟨rfl, rfl⟩) | (go_at_call 18; first | ((with_reducible refine (TC.out _).mono ?_); rintro e w' ⟨rfl, rfl⟩) | ((with_reducible refine (QC.out _).mono ?_); rintro e w' ⟨rfl, rfl⟩)))
    refine (awake_any _).mono ?_
    rintro e w7 ⟨rfl, k7⟩
    go_wp2_with fail
    go_ret
    exact ⟨rfl, HA.out.trans k7⟩

end Go.Proofs.Ytckmkagijanbdaa.Al
