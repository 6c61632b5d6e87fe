/- Package ident: keys stand in one row; and the document's. -/
import Derived.Test.YtiaafjabhnomeaaId
import Derived.StillTailTactics
namespace Go.Proofs.Ytiaafjabhnomeaa.Id
open Go.RowKit Go.Sort St IdM
set_option linter.unusedVariables false

theorem cmp_q {a b z : Int} (hz : Hid (cmpI a b = z)) {w : World} :
    Calls Try.prog 49 #[.int .i64 a, .int .i64 b] w fun e w' => e = .returned (.int .i64 z) ∧ w' = w :=
  (cmp_as hz).mono fun _ _ h => ⟨h.1, h.2.symm⟩

set_option maxRecDepth 100000 in
set_option maxHeartbeats 800000 in
theorem compare_as {n i s n' i' s' z : Int} (hz : Hid (compareI n i s n' i' s' = z)) {w : World} :
    Calls Try.prog 48 #[.agg #[.int .i64 n, .int .i64 i, .int .i64 s], .agg #[.int .i64 n', .int .i64 i', .int .i64 s']] w fun e w' => e = .returned (.int .i64 z) ∧ Kept w w' := by
  obtain ⟨z1, h1⟩ : ∃ z, Hid (cmpI n n' = z) := ⟨_, rfl⟩
  obtain ⟨z2, h2⟩ : ∃ z, Hid (cmpI i i' = z) := ⟨_, rfl⟩
  obtain ⟨z3, h3⟩ : ∃ z, Hid (cmpI s s' = z) := ⟨_, rfl⟩
  have hb := Lib.hid (show orI z1 (orI z2 z3) = z by rw [← hz.out, ← h1.out, ← h2.out, ← h3.out]; rfl)
  clear hz
  go_enter Try.func48, Try.ntmps48
  go_wp2_with fail
  obtain ⟨W, hW, hK, hx, hy⟩ := boxed2 w #[.int .i64 n, .int .i64 i, .int .i64 s] #[.int .i64 n', .int .i64 i', .int .i64 s'] 30
  have x0 := hx 0
  have x1 := hx 1
  have x2 := hx 2
  have y0 := hy 0
  have y1 := hy 1
  have y2 := hy 2
  clear hx hy
  refine wp_region_still_tail 15 (by kernel_rfl) (by kernel_rfl) ?_
  change wpStill _ _ (World.drew _) (fun a' => wpList _ _ _ _ a' (World.drew _)) _ _
  rw [hW]
  clear hW
  simp only [List.take_succ_cons, List.take_zero, List.drop_succ_cons, List.drop_zero]
  repeat (first | still_step | still_call (cmp_q (by assumption)))
  refine wpStill_nil ?_
  go_wp2_with (go_at_call 47; refine (or3_any _ _ _ _ _ (blk_new _ _)).mono ?_; rintro e w' ⟨rfl, rfl⟩)
  go_ret
  exact ⟨ret_int hb.out, Kept.more hK _⟩

set_option maxRecDepth 100000 in
set_option maxHeartbeats 800000 in
theorem rcompare_as {n i s n' i' s' z : Int} (hz : Hid (compareI n i s n' i' s' = z)) {w : World} :
    Calls Try.prog 45 #[.agg #[.int .i64 n, .int .i64 i, .int .i64 s], .agg #[.int .i64 n', .int .i64 i', .int .i64 s']] w fun e w' => e = .returned (.int .i64 z) ∧ Kept w w' := by
  by_cases hn : n = n'
  · subst hn
    by_cases hi : i = i'
    · subst hi
      have hb : Hid (cmpI s s' = z) := Lib.hid (by rw [← hz.out]; unfold compareI; rw [cmp_eq, cmp_eq]; rfl)
      clear hz
      go_enter Try.func45, Try.ntmps45
      go_wp2_with (go_at_call 46; refine (ints_as (by assumption)).mono ?_; rintro e w' ⟨rfl, rfl⟩)
      go_ret
      exact ⟨rfl, Kept.more (Kept.one _ _) _⟩
    · have hb : Hid (cmpI i i' = z) := Lib.hid (by rw [← hz.out]; unfold compareI; rw [cmp_eq, or_zero, or_ne _ (cmp_ne hi)])
      have h1 : (i != i') = true := by simpa using hi
      clear hz hi
      go_enter Try.func45, Try.ntmps45
      go_wp2_with (go_at_call 46; refine (ints_as (by assumption)).mono ?_; rintro e w' ⟨rfl, rfl⟩)
      go_ret
      exact ⟨rfl, Kept.more (Kept.one _ _) _⟩
  · have hb : Hid (cmpI n n' = z) := Lib.hid (by rw [← hz.out]; unfold compareI; rw [or_ne _ (cmp_ne hn)])
    have h1 : (n != n') = true := by simpa using hn
    clear hz hn
    go_enter Try.func45, Try.ntmps45
    go_wp2_with (go_at_call 46; refine (ints_as (by assumption)).mono ?_; rintro e w' ⟨rfl, rfl⟩)
    go_ret
    exact ⟨rfl, Kept.more (Kept.one _ _) _⟩

end Go.Proofs.Ytiaafjabhnomeaa.Id
