/- The law of layer 17: who is refused now for its time, or its lease, is never begun later. -/
import Derived.Test.YtnloliedmdjakaaAd8
namespace Go.Proofs.Ytnloliedmdjakaa.Ad
open Go.RowKit Go.Sort St PkM IdM
open Go.Proofs.Ytnloliedmdjakaa.Id (quiet_at)
set_option linter.unusedVariables false

set_option maxRecDepth 100000 in
set_option maxHeartbeats 4000000 in
theorem late_long (c : Cf) (p : Pk) (r : Ro) (n : Int) (w : World) (h : 60 < p.tm.size ∨ ¬ 60 < p.tm.size ∧ n < r.now) : Calls Try.prog 5 #[.agg c.arr, .agg p.arr, .agg r.arr, .int .i64 n] w fun e w' => e = .returned (.bool true) ∧ Kept w w' := by
  obtain ⟨W, hW, hI⟩ := In.new w c p r
  have HW := Lib.hid hW
  have HK := Lib.hid hI.kept
  have x9 : W.cell? ⟨w.heap.size + 1, 9, none⟩ = some (.string p.tm) := hI.atp 9
  have r0 : W.cell? ⟨w.heap.size + 2, 0, none⟩ = some (.int .i64 r.now) := hI.atr 0
  clear hW
  rcases h with h | ⟨h, h2⟩
  · go_enter Try.func5, Try.ntmps5
    go_upto_region 1 with fail
    rw [HW.out]
    go_wp2_with (go_at_call 6; refine (awake_any _).mono ?_; rintro e u ⟨rfl, hk⟩)
    go_ret
    exact ⟨rfl, HK.out.trans hk⟩
  · go_enter Try.func5, Try.ntmps5
    go_upto_region 1 with fail
    rw [HW.out]
    go_wp2_with (go_at_call 6; refine (awake_any _).mono ?_; rintro e u ⟨rfl, hk⟩)
    go_ret
    exact ⟨rfl, HK.out.trans hk⟩

set_option maxRecDepth 100000 in
set_option maxHeartbeats 4000000 in
/-- where the law asks for nothing -/
theorem late_no (c : Cf) (p : Pk) (r : Ro) (n : Int) (w : World) (h : ¬ 60 < p.tm.size) (h2 : ¬ n < r.now) {a b : Int} (ha : chk c p r = (a, b)) (hb : (a = 3 ∨ a = 2 ∨ a = 0) ∨ a = 1 ∧ (b = 8 ∨ b = 12)) : Calls Try.prog 5 #[.agg c.arr, .agg p.arr, .agg r.arr, .int .i64 n] w fun e w' => e = .returned (.bool true) ∧ Kept w w' := by
  obtain ⟨W, hW, hI⟩ := In.new w c p r
  have HW := Lib.hid hW
  have HI := Lib.hid hI
  have x9 : W.cell? ⟨w.heap.size + 1, 9, none⟩ = some (.string p.tm) := hI.atp 9
  have r0 : W.cell? ⟨w.heap.size + 2, 0, none⟩ = some (.int .i64 r.now) := hI.atr 0
  have C1 := Lib.hid (show ∀ u, Calls Try.prog 7 #[.agg c.arr, .agg p.arr, .agg r.arr] u fun e w' => e = .returned (.tuple #[.int .i64 a, .int .i64 b]) ∧ Kept u w' from fun u => by have := check_any c p r u; rw [ha] at this; exact this)
  clear hW ha
  rcases hb with (rfl | rfl | rfl) | ⟨rfl, rfl | rfl⟩
  · go_enter Try.func5, Try.ntmps5
    go_upto_region 1 with fail
    rw [HW.out]
    go_wp2_with (first
      | (go_at_call 7; refine (C1.out _).mono ?_; rintro e u1 ⟨rfl, hk1⟩)
      | (go_at_call 6; refine (awake_any _).mono ?_; rintro e u2 ⟨rfl, hk2⟩)
      | (refine load_w 24 (.tmp 4) rfl w.heap.size rfl rfl c.arr 14 hI.bc Try.underlying24 rfl info_cf ?_)
      | (refine load_w 30 (.tmp 5) rfl (w.heap.size + 1) rfl rfl p.arr 23 hI.bp Try.underlying30 rfl info_pk ?_)
      | (refine load_w 32 (.tmp 6) rfl (w.heap.size + 2) rfl rfl r.arr 4 hI.br Try.underlying32 rfl info_ro ?_))
    go_ret
    exact ⟨rfl, (HI.out.kept.trans hk1).trans hk2⟩
  · go_enter Try.func5, Try.ntmps5
    go_upto_region 1 with fail
    rw [HW.out]
    go_wp2_with (first
      | (go_at_call 7; refine (C1.out _).mono ?_; rintro e u1 ⟨rfl, hk1⟩)
      | (go_at_call 6; refine (awake_any _).mono ?_; rintro e u2 ⟨rfl, hk2⟩)
      | (refine load_w 24 (.tmp 4) rfl w.heap.size rfl rfl c.arr 14 hI.bc Try.underlying24 rfl info_cf ?_)
      | (refine load_w 30 (.tmp 5) rfl (w.heap.size + 1) rfl rfl p.arr 23 hI.bp Try.underlying30 rfl info_pk ?_)
      | (refine load_w 32 (.tmp 6) rfl (w.heap.size + 2) rfl rfl r.arr 4 hI.br Try.underlying32 rfl info_ro ?_))
    go_ret
    exact ⟨rfl, (HI.out.kept.trans hk1).trans hk2⟩
  · go_enter Try.func5, Try.ntmps5
    go_upto_region 1 with fail
    rw [HW.out]
    go_wp2_with (first
      | (go_at_call 7; refine (C1.out _).mono ?_; rintro e u1 ⟨rfl, hk1⟩)
      | (go_at_call 6; refine (awake_any _).mono ?_; rintro e u2 ⟨rfl, hk2⟩)
      | (refine load_w 24 (.tmp 4) rfl w.heap.size rfl rfl c.arr 14 hI.bc Try.underlying24 rfl info_cf ?_)
      | (refine load_w 30 (.tmp 5) rfl (w.heap.size + 1) rfl rfl p.arr 23 hI.bp Try.underlying30 rfl info_pk ?_)
      | (refine load_w 32 (.tmp 6) rfl (w.heap.size + 2) rfl rfl r.arr 4 hI.br Try.underlying32 rfl info_ro ?_))
    go_ret
    exact ⟨rfl, (HI.out.kept.trans hk1).trans hk2⟩
  · go_enter Try.func5, Try.ntmps5
    go_upto_region 1 with fail
    rw [HW.out]
    go_wp2_with (first
      | (go_at_call 7; refine (C1.out _).mono ?_; rintro e u1 ⟨rfl, hk1⟩)
      | (go_at_call 6; refine (awake_any _).mono ?_; rintro e u2 ⟨rfl, hk2⟩)
      | (refine load_w 24 (.tmp 4) rfl w.heap.size rfl rfl c.arr 14 hI.bc Try.underlying24 rfl info_cf ?_)
      | (refine load_w 30 (.tmp 5) rfl (w.heap.size + 1) rfl rfl p.arr 23 hI.bp Try.underlying30 rfl info_pk ?_)
      | (refine load_w 32 (.tmp 6) rfl (w.heap.size + 2) rfl rfl r.arr 4 hI.br Try.underlying32 rfl info_ro ?_))
    go_ret
    exact ⟨rfl, (HI.out.kept.trans hk1).trans hk2⟩
  · go_enter Try.func5, Try.ntmps5
    go_upto_region 1 with fail
    rw [HW.out]
    go_wp2_with (first
      | (go_at_call 7; refine (C1.out _).mono ?_; rintro e u1 ⟨rfl, hk1⟩)
      | (go_at_call 6; refine (awake_any _).mono ?_; rintro e u2 ⟨rfl, hk2⟩)
      | (refine load_w 24 (.tmp 4) rfl w.heap.size rfl rfl c.arr 14 hI.bc Try.underlying24 rfl info_cf ?_)
      | (refine load_w 30 (.tmp 5) rfl (w.heap.size + 1) rfl rfl p.arr 23 hI.bp Try.underlying30 rfl info_pk ?_)
      | (refine load_w 32 (.tmp 6) rfl (w.heap.size + 2) rfl rfl r.arr 4 hI.br Try.underlying32 rfl info_ro ?_))
    go_ret
    exact ⟨rfl, (HI.out.kept.trans hk1).trans hk2⟩

/-- the time is turned -/
theorem In.turn {w W : World} {c : Cf} {p : Pk} {r : Ro} (h : In w W c p r) (n : Int) : In w (W.setCell ⟨w.heap.size + 2, 0, none⟩ (.int .i64 n)) c p { r with now := n } := by
  refine ⟨Below.setCell h.kept (by show w.heap.size ≤ w.heap.size + 2; omega) _, ?_, ?_, ?_⟩
  · rw [Below.heap_setCell _ _ _ _ (by show w.heap.size ≠ w.heap.size + 2; omega)]; exact h.bc
  · rw [Below.heap_setCell _ _ _ _ (by show w.heap.size + 1 ≠ w.heap.size + 2; omega)]; exact h.bp
  · exact blk_set h.br 0 _

set_option maxRecDepth 100000 in
set_option maxHeartbeats 4000000 in
/-- who is refused for its time, or its lease -/
theorem late_yes (c : Cf) (p : Pk) (r : Ro) (n : Int) (w : World) (h : ¬ 60 < p.tm.size) (h2 : ¬ n < r.now) {b : Int} (ha : chk c p r = (1, b)) (hb : b = 4 ∨ b = 1) (hn : (chk c p { r with now := n }).1 = 1) : Calls Try.prog 5 #[.agg c.arr, .agg p.arr, .agg r.arr, .int .i64 n] w fun e w' => e = .returned (.bool true) ∧ Kept w w' := by
  obtain ⟨W, hW, hI⟩ := In.new w c p r
  have HW := Lib.hid hW
  have HI := Lib.hid hI
  have x9 : W.cell? ⟨w.heap.size + 1, 9, none⟩ = some (.string p.tm) := hI.atp 9
  have r0 : W.cell? ⟨w.heap.size + 2, 0, none⟩ = some (.int .i64 r.now) := hI.atr 0
  obtain ⟨y, hy⟩ : ∃ y, (chk c p { r with now := n }).2 = y := ⟨_, rfl⟩
  have C1 := Lib.hid (show ∀ u, Calls Try.prog 7 #[.agg c.arr, .agg p.arr, .agg r.arr] u fun e w' => e = .returned (.tuple #[.int .i64 1, .int .i64 b]) ∧ Kept u w' from fun u => by have := check_any c p r u; rw [ha] at this; exact this)
  have C2 := Lib.hid (show ∀ u, Calls Try.prog 7 #[.agg c.arr, .agg p.arr, .agg (Ro.arr { r with now := n })] u fun e w' => e = .returned (.tuple #[.int .i64 1, .int .i64 y]) ∧ Kept u w' from fun u => by have := check_any c p { r with now := n } u; rw [hn, hy] at this; exact this)
  clear hW ha hn hy
  rcases hb with rfl | rfl
  · go_enter Try.func5, Try.ntmps5
    go_upto_region 1 with fail
    rw [HW.out]
    go_upto_region 6 with (first
      | (go_at_call 7; refine (C1.out _).mono ?_; rintro e u1 ⟨rfl, hk1⟩)
      | (refine load_w 24 (.tmp 4) rfl w.heap.size rfl rfl c.arr 14 hI.bc Try.underlying24 rfl info_cf ?_)
      | (refine load_w 30 (.tmp 5) rfl (w.heap.size + 1) rfl rfl p.arr 23 hI.bp Try.underlying30 rfl info_pk ?_)
      | (refine load_w 32 (.tmp 6) rfl (w.heap.size + 2) rfl rfl r.arr 4 hI.br Try.underlying32 rfl info_ro ?_))
    have hJ := HI.out.go hk1
    have s0 : u1.cell? ⟨w.heap.size + 2, 0, none⟩ = some (.int .i64 r.now) := hJ.atr 0
    have sf : u1.frozen? ⟨w.heap.size + 2, 0, none⟩ = false := blk_free hJ.br 0
    have hT := hJ.turn n
    clear hk1 hI x9 r0 hJ
    go_upto_region 7 with fail
    obtain ⟨V, hV⟩ : ∃ V, u1.setCell ⟨w.heap.size + 2, 0, none⟩ (.int .i64 n) = V := ⟨_, rfl⟩
    rw [hV] at hT ⊢
    clear hV s0 sf
    go_wp2_with (first
      | (go_at_call 7; refine (C2.out _).mono ?_; rintro e u2 ⟨rfl, hk2⟩)
      | (go_at_call 6; refine (awake_any _).mono ?_; rintro e u3 ⟨rfl, hk3⟩)
      | (refine load_w 24 (.tmp 4) rfl w.heap.size rfl rfl c.arr 14 hT.bc Try.underlying24 rfl info_cf ?_)
      | (refine load_w 30 (.tmp 5) rfl (w.heap.size + 1) rfl rfl p.arr 23 hT.bp Try.underlying30 rfl info_pk ?_)
      | (refine load_w 32 (.tmp 6) rfl (w.heap.size + 2) rfl rfl (Ro.arr { r with now := n }) 4 hT.br Try.underlying32 rfl info_ro ?_))
    go_ret
    exact ⟨rfl, (hT.kept.trans hk2).trans hk3⟩
  · go_enter Try.func5, Try.ntmps5
    go_upto_region 1 with fail
    rw [HW.out]
    go_upto_region 6 with (first
      | (go_at_call 7; refine (C1.out _).mono ?_; rintro e u1 ⟨rfl, hk1⟩)
      | (refine load_w 24 (.tmp 4) rfl w.heap.size rfl rfl c.arr 14 hI.bc Try.underlying24 rfl info_cf ?_)
      | (refine load_w 30 (.tmp 5) rfl (w.heap.size + 1) rfl rfl p.arr 23 hI.bp Try.underlying30 rfl info_pk ?_)
      | (refine load_w 32 (.tmp 6) rfl (w.heap.size + 2) rfl rfl r.arr 4 hI.br Try.underlying32 rfl info_ro ?_))
    have hJ := HI.out.go hk1
    have s0 : u1.cell? ⟨w.heap.size + 2, 0, none⟩ = some (.int .i64 r.now) := hJ.atr 0
    have sf : u1.frozen? ⟨w.heap.size + 2, 0, none⟩ = false := blk_free hJ.br 0
    have hT := hJ.turn n
    clear hk1 hI x9 r0 hJ
    go_upto_region 7 with fail
    obtain ⟨V, hV⟩ : ∃ V, u1.setCell ⟨w.heap.size + 2, 0, none⟩ (.int .i64 n) = V := ⟨_, rfl⟩
    rw [hV] at hT ⊢
    clear hV s0 sf
    go_wp2_with (first
      | (go_at_call 7; refine (C2.out _).mono ?_; rintro e u2 ⟨rfl, hk2⟩)
      | (go_at_call 6; refine (awake_any _).mono ?_; rintro e u3 ⟨rfl, hk3⟩)
      | (refine load_w 24 (.tmp 4) rfl w.heap.size rfl rfl c.arr 14 hT.bc Try.underlying24 rfl info_cf ?_)
      | (refine load_w 30 (.tmp 5) rfl (w.heap.size + 1) rfl rfl p.arr 23 hT.bp Try.underlying30 rfl info_pk ?_)
      | (refine load_w 32 (.tmp 6) rfl (w.heap.size + 2) rfl rfl (Ro.arr { r with now := n }) 4 hT.br Try.underlying32 rfl info_ro ?_))
    go_ret
    exact ⟨rfl, (hT.kept.trans hk2).trans hk3⟩

theorem late_any (c : Cf) (p : Pk) (r : Ro) (n : Int) (w : World) : Calls Try.prog 5 #[.agg c.arr, .agg p.arr, .agg r.arr, .int .i64 n] w fun e w' => e = .returned (.bool true) ∧ Kept w w' := by
  by_cases h : 60 < p.tm.size
  · exact late_long c p r n w (.inl h)
  by_cases h2 : n < r.now
  · exact late_long c p r n w (.inr ⟨h, h2⟩)
  rcases chk_ways c p r with h1 | h1 | h1 | ⟨h1, h3⟩ | ⟨h1, h3⟩ | h1 | ⟨h1, _⟩
  · exact late_no c p r n w h h2 h1 (by omega)
  · exact late_no c p r n w h h2 h1 (by omega)
  · exact late_no c p r n w h h2 h1 (by omega)
  · exact late_yes c p r n w h h2 h1 (.inl rfl) (h3 n (by omega))
  · exact late_yes c p r n w h h2 h1 (.inr rfl) (h3 n (by omega))
  · exact late_no c p r n w h h2 h1 (by omega)
  · exact late_no c p r n w h h2 h1 (by omega)

end Go.Proofs.Ytnloliedmdjakaa.Ad
