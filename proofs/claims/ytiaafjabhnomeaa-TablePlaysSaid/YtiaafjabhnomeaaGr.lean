/- Package ident's comparisons, and alarm's: what they leave of the world: draws, and new blocks behind. -/
import Derived.Test.YtiaafjabhnomeaaId3
import Derived.Test.YtiaafjabhnomeaaShelf
namespace Go.Proofs.Ytiaafjabhnomeaa.Al
open Go.RowKit Go.Sort St IdM
open _root_.Go.Proofs.Ytiaafjabhnomeaa.Id
set_option linter.unusedVariables false

/-- b is a, some draws on, with new blocks behind -/
def Grew (a b : World) : Prop := ∃ q os, b = grow (a.drewN q) os
theorem grew_refl (a : World) : Grew a a := ⟨0, #[], by unfold grow World.drewN; simp⟩
theorem Grew.trans {a b c : World} (h : Grew a b) (k : Grew b c) : Grew a c := by
  obtain ⟨q, os, rfl⟩ := h
  obtain ⟨q', os', rfl⟩ := k
  exact ⟨q + q', os ++ os', by unfold grow World.drewN; simp [Nat.add_assoc, Array.append_assoc]⟩
theorem grew_drew (a : World) : Grew a a.drew := ⟨1, #[], by unfold grow World.drewN World.drew; simp⟩
theorem grew_one (a : World) (o : Obj) : Grew a (a.alloc o) := ⟨0, #[o], by unfold grow World.drewN World.alloc; simp⟩
theorem Grew.drew {a b : World} (h : Grew a b) : Grew a b.drew := h.trans (grew_drew b)
theorem Grew.more {a b : World} (h : Grew a b) (o : Obj) : Grew a (b.alloc o) := h.trans (grew_one b o)
theorem Grew.kept {a b : World} (h : Grew a b) : Kept a b := by
  obtain ⟨q, os, rfl⟩ := h; exact ((Kept.refl a).drewN q).grow os

theorem boxes2 (w : World) (xs ys : Array Value) (t : TypeId) : ∃ W, World.drew ((w.alloc (.cells xs t (0, 0))).alloc (.cells ys t (0, 0))) = W ∧ Grew w W ∧ (∀ o, W.cell? ⟨w.heap.size, o, none⟩ = xs[o]?) ∧ (∀ o, W.cell? ⟨w.heap.size + 1, o, none⟩ = ys[o]?) := by
  obtain ⟨W, h1, _, h3, h4⟩ := boxed2 w xs ys t
  exact ⟨W, h1, by rw [← h1]; exact ((grew_one _ _).more _).drew, h3, h4⟩

set_option maxRecDepth 100000 in
set_option maxHeartbeats 800000 in
theorem compare_gr {n i s n' i' s' z : Int} (hz : Hid (compareI n i s n' i' s' = z)) {w : World} :
    Calls Try.prog 48 #[.agg #[.int .i64 n, .int .i64 i, .int .i64 s], .agg #[.int .i64 n', .int .i64 i', .int .i64 s']] w fun e w' => e = .returned (.int .i64 z) ∧ Grew w w' := by
  obtain ⟨z1, h1⟩ : ∃ z, Hid (cmpI n n' = z) := ⟨_, rfl⟩
  obtain ⟨z2, h2⟩ : ∃ z, Hid (cmpI i i' = z) := ⟨_, rfl⟩
  obtain ⟨z3, h3⟩ : ∃ z, Hid (cmpI s s' = z) := ⟨_, rfl⟩
  have hb := Lib.hid (show orI z1 (orI z2 z3) = z by rw [← hz.out, ← h1.out, ← h2.out, ← h3.out]; rfl)
  clear hz
  go_enter Try.func48, Try.ntmps48
  go_wp2_with fail
  obtain ⟨W, hW, hK, hx, hy⟩ := boxes2 w #[.int .i64 n, .int .i64 i, .int .i64 s] #[.int .i64 n', .int .i64 i', .int .i64 s'] 30
  have x0 := hx 0
  have x1 := hx 1
  have x2 := hx 2
  have y0 := hy 0
  have y1 := hy 1
  have y2 := hy 2
  clear hx hy
  refine wp_region_still_tail 15 (by kernel_rfl) (by kernel_rfl) ?_
  change wpStill _ _ (World.drew _) (fun a' => wpList _ _ _ _ a' (World.drew _)) _ _
  rw [hW]
  clear hW
  simp only [List.take_succ_cons, List.take_zero, List.drop_succ_cons, List.drop_zero]
  repeat (first | still_step | still_call (cmp_q (by assumption)))
  refine wpStill_nil ?_
  go_wp2_with (go_at_call 47; refine (or3_any _ _ _ _ _ (blk_new _ _)).mono ?_; rintro e w' ⟨rfl, rfl⟩)
  go_ret
  exact ⟨ret_int hb.out, Grew.more hK _⟩

set_option maxRecDepth 100000 in
set_option maxHeartbeats 800000 in
theorem keys_gr {n i s a n' i' s' a' z : Int} (hz : Hid (keysI n i s a n' i' s' a' = z)) {w : World} :
    Calls Try.prog 41 #[.agg #[.int .i64 n, .int .i64 i, .int .i64 s, .int .i64 a], .agg #[.int .i64 n', .int .i64 i', .int .i64 s', .int .i64 a']] w fun e w' => e = .returned (.int .i64 z) ∧ Grew w w' := by
  obtain ⟨z1, h1⟩ : ∃ z, Hid (compareI n i s n' i' s' = z) := ⟨_, rfl⟩
  obtain ⟨z2, h2⟩ : ∃ z, Hid (cmpI a a' = z) := ⟨_, rfl⟩
  have hb := Lib.hid (show orI z1 z2 = z by rw [← hz.out, ← h1.out, ← h2.out]; rfl)
  clear hz
  go_enter Try.func41, Try.ntmps41
  go_wp2_with fail
  obtain ⟨W, hW, hK, hE⟩ := eight_new w n i s a n' i' s' a'
  have HE : E8 w n i s a n' i' s' a' W := ⟨hK, hE⟩
  have HG : Grew w W := by rw [← hW]; exact (grew_one _ _).more _
  rw [hW]
  clear hW hK hE
  have HD : E8 w n i s a n' i' s' a' W.drew := HE.go (Kept.refl _).drew
  go_region_held3 (fun w' => w'.cell? ⟨w.heap.size, 0, none⟩ = some (.int .i64 n) ∧ w'.cell? ⟨w.heap.size, 1, none⟩ = some (.int .i64 i) ∧ w'.cell? ⟨w.heap.size, 2, none⟩ = some (.int .i64 s) ∧ w'.cell? ⟨w.heap.size, 3, none⟩ = some (.int .i64 a) ∧
      w'.cell? ⟨w.heap.size + 1, 0, none⟩ = some (.int .i64 n') ∧ w'.cell? ⟨w.heap.size + 1, 1, none⟩ = some (.int .i64 i') ∧ w'.cell? ⟨w.heap.size + 1, 2, none⟩ = some (.int .i64 s') ∧ w'.cell? ⟨w.heap.size + 1, 3, none⟩ = some (.int .i64 a'))
    (first | exact E8.cells (by assumption) | exact (E8.go (by assumption) (Kept.one _ _)).cells)
    (first | (go_at_call 48; refine (compare_gr (by assumption)).mono ?_; rintro e w1 ⟨rfl, hg1⟩; have HF := HD.go hg1.kept; have HGF := (HG.drew).trans hg1)
           | (go_at_call 49; refine (cmp_as (by assumption)).mono ?_; rintro e w' ⟨rfl, rfl⟩)
           | (go_at_call 47; refine (or2_any _ _ _ _ (blk_new _ _)).mono ?_; rintro e w' ⟨rfl, rfl⟩))
  go_wp2_with fail
  go_ret
  exact ⟨ret_int hb.out, Grew.more HGF _⟩



end Go.Proofs.Ytiaafjabhnomeaa.Al
