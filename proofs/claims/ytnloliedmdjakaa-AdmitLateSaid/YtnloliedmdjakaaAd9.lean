/- The law of layer 17: what is begun has time left, a lease, and a hop that may be. -/
import Derived.Test.YtnloliedmdjakaaAd8
namespace Go.Proofs.Ytnloliedmdjakaa.Ad
open Go.RowKit Go.Sort St PkM IdM
open Go.Proofs.Ytnloliedmdjakaa.Id (quiet_at)
set_option linter.unusedVariables false

/-- what the law needs of a packet whose timeout is too long -/
theorem starts_long (c : Cf) (p : Pk) (r : Ro) (w : World) (h : 60 < p.tm.size) : Calls Try.prog 4 #[.agg c.arr, .agg p.arr, .agg r.arr] w fun e w' => e = .returned (.bool true) ∧ Kept w w' := by
  obtain ⟨W, hW, hI⟩ := In.new w c p r
  have HW := Lib.hid hW
  have HK := Lib.hid hI.kept
  have x9 : W.cell? ⟨w.heap.size + 1, 9, none⟩ = some (.string p.tm) := hI.atp 9
  clear hW
  go_enter Try.func4, Try.ntmps4
  go_upto_region 1 with fail
  rw [HW.out]
  go_wp2_with (go_at_call 6; refine (awake_any _).mono ?_; rintro e u ⟨rfl, hk⟩)
  go_ret
  exact ⟨rfl, HK.out.trans hk⟩

set_option maxRecDepth 100000 in
set_option maxHeartbeats 4000000 in
/-- where nothing is begun -/
theorem starts_no (c : Cf) (p : Pk) (r : Ro) (w : World) (h : ¬ 60 < p.tm.size) {a b : Int} (ha : chk c p r = (a, b)) (ha3 : a = 1 ∨ a = 2 ∨ a = 3) : Calls Try.prog 4 #[.agg c.arr, .agg p.arr, .agg r.arr] w fun e w' => e = .returned (.bool true) ∧ Kept w w' := by
  obtain ⟨W, hW, hI⟩ := In.new w c p r
  have HW := Lib.hid hW
  have HI := Lib.hid hI
  have x9 : W.cell? ⟨w.heap.size + 1, 9, none⟩ = some (.string p.tm) := hI.atp 9
  have C1 := Lib.hid (show ∀ u, Calls Try.prog 7 #[.agg c.arr, .agg p.arr, .agg r.arr] u fun e w' => e = .returned (.tuple #[.int .i64 a, .int .i64 b]) ∧ Kept u w' from fun u => by have := check_any c p r u; rw [ha] at this; exact this)
  clear hW ha
  rcases ha3 with rfl | rfl | rfl
  · go_enter Try.func4, Try.ntmps4
    go_upto_region 1 with fail
    rw [HW.out]
    go_wp2_with (first
      | (go_at_call 7; refine (C1.out _).mono ?_; rintro e u1 ⟨rfl, hk1⟩)
      | (go_at_call 6; refine (awake_any _).mono ?_; rintro e u2 ⟨rfl, hk2⟩)
      | (refine load_w 24 (.tmp 3) rfl w.heap.size rfl rfl c.arr 14 hI.bc Try.underlying24 rfl info_cf ?_)
      | (refine load_w 30 (.tmp 4) rfl (w.heap.size + 1) rfl rfl p.arr 23 hI.bp Try.underlying30 rfl info_pk ?_)
      | (refine load_w 32 (.tmp 5) rfl (w.heap.size + 2) rfl rfl r.arr 4 hI.br Try.underlying32 rfl info_ro ?_))
    go_ret
    exact ⟨rfl, (HI.out.kept.trans hk1).trans hk2⟩
  · go_enter Try.func4, Try.ntmps4
    go_upto_region 1 with fail
    rw [HW.out]
    go_wp2_with (first
      | (go_at_call 7; refine (C1.out _).mono ?_; rintro e u1 ⟨rfl, hk1⟩)
      | (go_at_call 6; refine (awake_any _).mono ?_; rintro e u2 ⟨rfl, hk2⟩)
      | (refine load_w 24 (.tmp 3) rfl w.heap.size rfl rfl c.arr 14 hI.bc Try.underlying24 rfl info_cf ?_)
      | (refine load_w 30 (.tmp 4) rfl (w.heap.size + 1) rfl rfl p.arr 23 hI.bp Try.underlying30 rfl info_pk ?_)
      | (refine load_w 32 (.tmp 5) rfl (w.heap.size + 2) rfl rfl r.arr 4 hI.br Try.underlying32 rfl info_ro ?_))
    go_ret
    exact ⟨rfl, (HI.out.kept.trans hk1).trans hk2⟩
  · go_enter Try.func4, Try.ntmps4
    go_upto_region 1 with fail
    rw [HW.out]
    go_wp2_with (first
      | (go_at_call 7; refine (C1.out _).mono ?_; rintro e u1 ⟨rfl, hk1⟩)
      | (go_at_call 6; refine (awake_any _).mono ?_; rintro e u2 ⟨rfl, hk2⟩)
      | (refine load_w 24 (.tmp 3) rfl w.heap.size rfl rfl c.arr 14 hI.bc Try.underlying24 rfl info_cf ?_)
      | (refine load_w 30 (.tmp 4) rfl (w.heap.size + 1) rfl rfl p.arr 23 hI.bp Try.underlying30 rfl info_pk ?_)
      | (refine load_w 32 (.tmp 5) rfl (w.heap.size + 2) rfl rfl r.arr 4 hI.br Try.underlying32 rfl info_ro ?_))
    go_ret
    exact ⟨rfl, (HI.out.kept.trans hk1).trans hk2⟩

set_option maxRecDepth 100000 in
set_option maxHeartbeats 4000000 in
/-- where one is begun -/
theorem starts_yes (c : Cf) (p : Pk) (r : Ro) (w : World) (h : ¬ 60 < p.tm.size) (ha : chk c p r = (0, 0)) (hs : r.seen = false) (hh : p.hop ≤ c.hops) (hd : Tk.clamp r.now < dlP p) (hu : Tk.clamp r.now < Tk.clamp p.til) (hc : r.running < c.cap) (hp : p.prog < r.programs) :
    Calls Try.prog 4 #[.agg c.arr, .agg p.arr, .agg r.arr] w fun e w' => e = .returned (.bool true) ∧ Kept w w' := by
  obtain ⟨W, hW, hI⟩ := In.new w c p r
  have HW := Lib.hid hW
  have HI := Lib.hid hI
  have x9 : W.cell? ⟨w.heap.size + 1, 9, none⟩ = some (.string p.tm) := hI.atp 9
  obtain ⟨d, hdd⟩ : ∃ d, dlP p = d := ⟨_, rfl⟩
  obtain ⟨tn, htn⟩ : ∃ t, Tk.clamp r.now = t := ⟨_, rfl⟩
  obtain ⟨tu, htu⟩ : ∃ t, Tk.clamp p.til = t := ⟨_, rfl⟩
  have C1 := Lib.hid (show ∀ u, Calls Try.prog 7 #[.agg c.arr, .agg p.arr, .agg r.arr] u fun e w' => e = .returned (.tuple #[.int .i64 0, .int .i64 0]) ∧ Kept u w' from fun u => by have := check_any c p r u; rw [ha] at this; exact this)
  have C2 := Lib.hid (show ∀ u, Calls Try.prog 13 #[.int .i64 r.now] u fun e w' => e = .returned (.int .i64 tn) ∧ u = w' from fun u => by rw [← htn]; exact Tk.rclamp_any r.now u)
  have C3 := Lib.hid (show ∀ u, Calls Try.prog 13 #[.int .i64 p.til] u fun e w' => e = .returned (.int .i64 tu) ∧ u = w' from fun u => by rw [← htu]; exact Tk.rclamp_any p.til u)
  have C4 := Lib.hid (show ∀ u, Calls Try.prog 11 #[.agg p.arr] u fun e w' => e = .returned (.int .i64 d) ∧ Kept u w' from fun u => by rw [← hdd]; exact deadline_p p u)
  rw [hdd, htn] at hd
  rw [htn, htu] at hu
  clear hW ha hdd htn htu
  go_enter Try.func4, Try.ntmps4
  go_upto_region 1 with fail
  rw [HW.out]
  go_upto_region 4 with (first
    | (go_at_call 7; refine (C1.out _).mono ?_; rintro e u1 ⟨rfl, hk1⟩)
    | (refine load_w 24 (.tmp 3) rfl w.heap.size rfl rfl c.arr 14 hI.bc Try.underlying24 rfl info_cf ?_)
    | (refine load_w 30 (.tmp 4) rfl (w.heap.size + 1) rfl rfl p.arr 23 hI.bp Try.underlying30 rfl info_pk ?_)
    | (refine load_w 32 (.tmp 5) rfl (w.heap.size + 2) rfl rfl r.arr 4 hI.br Try.underlying32 rfl info_ro ?_))
  have hJ := HI.out.go hk1
  have r0 : u1.cell? ⟨w.heap.size + 2, 0, none⟩ = some (.int .i64 r.now) := hJ.atr 0
  have r3 : u1.cell? ⟨w.heap.size + 2, 3, none⟩ = some (.bool false) := by rw [hJ.atr 3, ← hs]; rfl
  have c5 : u1.cell? ⟨w.heap.size, 5, none⟩ = some (.int .i64 c.hops) := hJ.atc 5
  have p7 : u1.cell? ⟨w.heap.size + 1, 7, none⟩ = some (.int .i64 p.hop) := hJ.atp 7
  clear hk1 hI x9
  go_upto_region 7 with (go_at_call 13; refine (C2.out _).mono ?_; rintro e w' ⟨rfl, rfl⟩)
  go_wp2_with (first
    | (go_at_call 11; refine (C4.out _).mono ?_; rintro e u2 ⟨rfl, hk2⟩
       have hL := hJ.go hk2
       have p10 : u2.cell? ⟨w.heap.size + 1, 10, none⟩ = some (.int .i64 p.til) := hL.atp 10
       have r1 : u2.cell? ⟨w.heap.size + 2, 1, none⟩ = some (.int .i64 r.running) := hL.atr 1
       have c6 : u2.cell? ⟨w.heap.size, 6, none⟩ = some (.int .i64 c.cap) := hL.atc 6
       have p11 : u2.cell? ⟨w.heap.size + 1, 11, none⟩ = some (.int .i64 p.prog) := hL.atp 11
       have r2 : u2.cell? ⟨w.heap.size + 2, 2, none⟩ = some (.int .i64 r.programs) := hL.atr 2)
    | (go_at_call 13; refine (C3.out _).mono ?_; rintro e w' ⟨rfl, rfl⟩)
    | (go_at_call 6; refine (awake_any _).mono ?_; rintro e u3 ⟨rfl, hk3⟩)
    | (refine load_w 30 (.tmp 4) rfl (w.heap.size + 1) rfl rfl p.arr 23 hJ.bp Try.underlying30 rfl info_pk ?_))
  go_ret
  exact ⟨rfl, hL.kept.trans hk3⟩

theorem starts_any (c : Cf) (p : Pk) (r : Ro) (w : World) : Calls Try.prog 4 #[.agg c.arr, .agg p.arr, .agg r.arr] w fun e w' => e = .returned (.bool true) ∧ Kept w w' := by
  by_cases h : 60 < p.tm.size
  · exact starts_long c p r w h
  rcases chk_ways c p r with h1 | h1 | h1 | ⟨h1, _⟩ | ⟨h1, _⟩ | h1 | ⟨h1, h2, h3, h4, h5, h6, h7⟩
  · exact starts_no c p r w h h1 (by omega)
  · exact starts_no c p r w h h1 (by omega)
  · exact starts_no c p r w h h1 (by omega)
  · exact starts_no c p r w h h1 (by omega)
  · exact starts_no c p r w h h1 (by omega)
  · exact starts_no c p r w h h1 (by omega)
  · exact starts_yes c p r w h h1 h2 h3 h4 h5 h6 h7

end Go.Proofs.Ytnloliedmdjakaa.Ad
