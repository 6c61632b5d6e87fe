/- The law of layer 7: keys stand in one row. -/
import Derived.Test.YtjibkkgjkmdjgaaDoorIdLaws
namespace Go.Proofs.YtjibkkgjkmdjgaaDoor.Id
open Go.RowKit Go.Sort St IdM BsM Bs It At Rw
set_option linter.unusedVariables false

/-- where a call w on three keys stands -/
structure Tri (w : World) (a b c : Array Value) (u : World) : Prop where
  kept : Kept w u
  a : u.heap[w.heap.size]? = some (.cells a 25 (0, 0))
  b : u.heap[w.heap.size + 1]? = some (.cells b 25 (0, 0))
  c : u.heap[w.heap.size + 1 + 1]? = some (.cells c 25 (0, 0))
theorem Tri.go {w : World} {a b c : Array Value} {u v : World} (h : Tri w a b c u) (k : Kept u v) : Tri w a b c v := ⟨h.kept.trans k, kept_blk k h.a, kept_blk k h.b, kept_blk k h.c⟩
theorem Tri.new (w : World) (a b c : Array Value) : ∃ W, ((w.alloc (.cells a 25 (0, 0))).alloc (.cells b 25 (0, 0))).alloc (.cells c 25 (0, 0)) = W ∧ Tri w a b c W := by
  have h1 := blk_new (w.alloc (.cells a 25 (0, 0))) (.cells b 25 (0, 0))
  have h2 := blk_new ((w.alloc (.cells a 25 (0, 0))).alloc (.cells b 25 (0, 0))) (.cells c 25 (0, 0))
  rw [show (w.alloc (.cells a 25 (0, 0))).heap.size = w.heap.size + 1 by simp] at h1
  rw [show ((w.alloc (.cells a 25 (0, 0))).alloc (.cells b 25 (0, 0))).heap.size = w.heap.size + 1 + 1 by simp] at h2
  exact ⟨_, rfl, Kept.more (Kept.more (Kept.one _ _) _) _, kept_blk (Kept.one _ _) (kept_blk (Kept.one _ _) (blk_new _ _)), kept_blk (Kept.one _ _) h1, h2⟩
theorem keys_tri {w : World} {x y c : Array Value} {n i s a n' i' s' a' z : Int} (hz : Hid (keysI n i s a n' i' s' a' = z)) {u : World} (h : Tri w x y c u) :
    Calls Tryd.prog 17 #[.agg #[.int .i64 n, .int .i64 i, .int .i64 s, .int .i64 a], .agg #[.int .i64 n', .int .i64 i', .int .i64 s', .int .i64 a']] u fun e v => e = .returned (.int .i64 z) ∧ Tri w x y c v :=
  (keys_as hz).mono fun _ _ ⟨he, hk⟩ => ⟨he, h.go hk⟩

set_option maxRecDepth 100000 in
set_option maxHeartbeats 8000000 in
theorem row_any (n i s a n' i' s' a' m j t b : Int) (w : World) (h : Env w) :
    Calls Tryd.prog 6 #[.agg #[.int .i64 n, .int .i64 i, .int .i64 s, .int .i64 a], .agg #[.int .i64 n', .int .i64 i', .int .i64 s', .int .i64 a'], .agg #[.int .i64 m, .int .i64 j, .int .i64 t, .int .i64 b]] w
      fun e w' => e = .returned (.bool true) ∧ Below w.heap.size w w' := by
  have HE := Lib.hid h
  obtain ⟨W, hW, hT0⟩ := Tri.new w #[.int .i64 n, .int .i64 i, .int .i64 s, .int .i64 a] #[.int .i64 n', .int .i64 i', .int .i64 s', .int .i64 a'] #[.int .i64 m, .int .i64 j, .int .i64 t, .int .i64 b]
  have HW := Lib.hid (show ((w.alloc (.cells #[.int .i64 n, .int .i64 i, .int .i64 s, .int .i64 a] 25 (0, 0))).alloc (.cells #[.int .i64 n', .int .i64 i', .int .i64 s', .int .i64 a'] 25 (0, 0))).alloc (.cells #[.int .i64 m, .int .i64 j, .int .i64 t, .int .i64 b] 25 (0, 0)) = W from hW)
  clear hW
  have x0 := cell_regrown (blk_cell hT0.a 0)
  have x1 := cell_regrown (blk_cell hT0.a 1)
  have x2 := cell_regrown (blk_cell hT0.a 2)
  have x3 := cell_regrown (blk_cell hT0.a 3)
  have y0 := cell_regrown (blk_cell hT0.b 0)
  have y1 := cell_regrown (blk_cell hT0.b 1)
  have y2 := cell_regrown (blk_cell hT0.b 2)
  have y3 := cell_regrown (blk_cell hT0.b 3)
  have z0 := cell_regrown (blk_cell hT0.c 0)
  have z1 := cell_regrown (blk_cell hT0.c 1)
  have z2 := cell_regrown (blk_cell hT0.c 2)
  have z3 := cell_regrown (blk_cell hT0.c 3)
  obtain ⟨ab, hab⟩ : ∃ z, Hid (keysI n i s a n' i' s' a' = z) := ⟨_, rfl⟩
  obtain ⟨ba, hba⟩ : ∃ z, Hid (keysI n' i' s' a' n i s a = z) := ⟨_, rfl⟩
  obtain ⟨bc, hbc⟩ : ∃ z, Hid (keysI n' i' s' a' m j t b = z) := ⟨_, rfl⟩
  obtain ⟨ac, hac⟩ : ∃ z, Hid (keysI n i s a m j t b = z) := ⟨_, rfl⟩
  have Q1 := quiet_at (W := W) hT0.kept (fun x hx => keys_as (w := x) hab)
  have Q2 := quiet_at (W := W) hT0.kept (fun x hx => keys_as (w := x) hbc)
  have Q3 := quiet_at (W := W) hT0.kept (fun x hx => keys_as (w := x) hac)
  have hbd := keys_bd n i s a n' i' s' a'
  have hon : ab ≤ 0 → bc ≤ 0 → ac ≤ 0 := fun h1 h2 => by rw [← hab.out] at h1; rw [← hbc.out] at h2; rw [← hac.out]; exact keys_on h1 h2
  have hc := keys_cases n i s a n' i' s' a'
  rw [hab.out, hba.out] at hc
  rcases hc with ⟨rfl, rfl, hne⟩ | ⟨rfl, rfl, hn, hi, hs, ha⟩ | ⟨rfl, rfl, hne⟩
  · have hd : (n == n') = false ∨ (n = n' ∧ (i == i') = false) ∨ (n = n' ∧ i = i' ∧ (s == s') = false) ∨ (n = n' ∧ i = i' ∧ s = s' ∧ (a == a') = false) := by
      simp only [beq_eq_false_iff_ne]; omega
    have hle : bc ≤ 0 → ac ≤ 0 := hon (by omega)
    have hdis : 0 < bc ∨ (¬ 0 < bc ∧ ac ≤ 0) := by omega
    clear hne hon hbd hle
    rcases hd with hd | ⟨rfl, hd⟩ | ⟨rfl, rfl, hd⟩ | ⟨rfl, rfl, rfl, hd⟩ <;> rcases hdis with hd1 | ⟨hd1, hd2⟩
    all_goals
      go_enter Tryd.func6, Tryd.ntmps6
      go_wp2_with fail
      rw [HW.out]
      refine wp_region_quiet_below (by kernel_rfl) (by kernel_rfl) ?_
      repeat (go_big_quiet_step (first | (with_reducible exact Q1.out _) | (with_reducible exact Q2.out _) | (with_reducible exact Q3.out _)))
      refine wpQuiet_nil ?_
      intro _ hw'
      obtain ⟨⟨dq, osq⟩, hw''⟩ := hw'
      subst hw''
      have hT1 := hT0.go (below_regrown W dq osq)
      go_wp2_with (first
        | (go_at_call 17; refine (keys_tri hba hT1).mono ?_; rintro e v ⟨rfl, hT2⟩
           have u0 := blk_cell hT2.a 0; have u1 := blk_cell hT2.a 1; have u2 := blk_cell hT2.a 2; have u3 := blk_cell hT2.a 3
           have v0 := blk_cell hT2.b 0; have v1 := blk_cell hT2.b 1; have v2 := blk_cell hT2.b 2; have v3 := blk_cell hT2.b 3)
        | (go_at_call 23; refine (awake_k HE hT2.kept).mono ?_; rintro e v4 ⟨rfl, hk4⟩))
      go_ret
      exact ⟨rfl, hk4⟩
  · subst hn; subst hi; subst hs; subst ha
    have hle : bc ≤ 0 → ac ≤ 0 := hon (by omega)
    have hdis : 0 < bc ∨ (¬ 0 < bc ∧ ac ≤ 0) := by omega
    clear hon hbd hle
    rcases hdis with hd | ⟨hd1, hd2⟩
    all_goals
      go_enter Tryd.func6, Tryd.ntmps6
      go_wp2_with fail
      rw [HW.out]
      refine wp_region_quiet_below (by kernel_rfl) (by kernel_rfl) ?_
      repeat (go_big_quiet_step (first | (with_reducible exact Q1.out _) | (with_reducible exact Q2.out _) | (with_reducible exact Q3.out _)))
      refine wpQuiet_nil ?_
      intro _ hw'
      obtain ⟨⟨dq, osq⟩, hw''⟩ := hw'
      subst hw''
      have hT1 := hT0.go (below_regrown W dq osq)
      go_wp2_with (first
        | (go_at_call 17; refine (keys_tri hba hT1).mono ?_; rintro e v ⟨rfl, hT2⟩
           have u0 := blk_cell hT2.a 0; have u1 := blk_cell hT2.a 1; have u2 := blk_cell hT2.a 2; have u3 := blk_cell hT2.a 3
           have v0 := blk_cell hT2.b 0; have v1 := blk_cell hT2.b 1; have v2 := blk_cell hT2.b 2; have v3 := blk_cell hT2.b 3)
        | (go_at_call 23; refine (awake_k HE hT2.kept).mono ?_; rintro e v4 ⟨rfl, hk4⟩))
      go_ret
      exact ⟨rfl, hk4⟩
  · have hd : (n == n') = false ∨ (n = n' ∧ (i == i') = false) ∨ (n = n' ∧ i = i' ∧ (s == s') = false) ∨ (n = n' ∧ i = i' ∧ s = s' ∧ (a == a') = false) := by
      simp only [beq_eq_false_iff_ne]; omega
    clear hne hon hbd
    rcases hd with hd | ⟨rfl, hd⟩ | ⟨rfl, rfl, hd⟩ | ⟨rfl, rfl, rfl, hd⟩
    all_goals
      go_enter Tryd.func6, Tryd.ntmps6
      go_wp2_with fail
      rw [HW.out]
      refine wp_region_quiet_below (by kernel_rfl) (by kernel_rfl) ?_
      repeat (go_big_quiet_step (first | (with_reducible exact Q1.out _) | (with_reducible exact Q2.out _) | (with_reducible exact Q3.out _)))
      refine wpQuiet_nil ?_
      intro _ hw'
      obtain ⟨⟨dq, osq⟩, hw''⟩ := hw'
      subst hw''
      have hT1 := hT0.go (below_regrown W dq osq)
      go_wp2_with (first
        | (go_at_call 17; refine (keys_tri hba hT1).mono ?_; rintro e v ⟨rfl, hT2⟩
           have u0 := blk_cell hT2.a 0; have u1 := blk_cell hT2.a 1; have u2 := blk_cell hT2.a 2; have u3 := blk_cell hT2.a 3
           have v0 := blk_cell hT2.b 0; have v1 := blk_cell hT2.b 1; have v2 := blk_cell hT2.b 2; have v3 := blk_cell hT2.b 3)
        | (go_at_call 23; refine (awake_k HE hT2.kept).mono ?_; rintro e v4 ⟨rfl, hk4⟩))
      go_ret
      exact ⟨rfl, hk4⟩

end Go.Proofs.YtjibkkgjkmdjgaaDoor.Id
