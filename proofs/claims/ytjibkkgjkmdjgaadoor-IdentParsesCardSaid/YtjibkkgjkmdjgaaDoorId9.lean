/- The document's way of reading an identity of a text. -/
import Derived.Test.YtjibkkgjkmdjgaaDoorId8
import Derived.StillTailTactics
namespace Go.Proofs.YtjibkkgjkmdjgaaDoor.Id
open Go.RowKit Go.Sort St IdM BsM Bs It At Rw
set_option linter.unusedVariables false

/-- where the call w stands: its result's block, and three numbers, one behind the other -/
structure Pr (w : World) (x y z : Int) (u : World) : Prop where
  kept : Kept w u
  res : u.heap[w.heap.size]? = some (.cells #[.int .i64 0, .int .i64 0, .int .i64 0] 23 (0, 0))
  blk : u.heap[w.heap.size + 1]? = some (.cells #[.int .i64 x, .int .i64 y, .int .i64 z] 3 (0, 0))
theorem Pr.go {w : World} {x y z : Int} {u v : World} (h : Pr w x y z u) (k : Kept u v) : Pr w x y z v := ⟨h.kept.trans k, kept_blk k h.res, kept_blk k h.blk⟩
theorem Pr.new (w : World) : ∃ W, (w.alloc (.cells #[.int .i64 0, .int .i64 0, .int .i64 0] 23 (0, 0))).alloc (.cells #[.int .i64 0, .int .i64 0, .int .i64 0] 3 (0, 0)) = W ∧ Pr w 0 0 0 W := by
  have h2 := blk_new (w.alloc (.cells #[.int .i64 0, .int .i64 0, .int .i64 0] 23 (0, 0))) (.cells #[.int .i64 0, .int .i64 0, .int .i64 0] 3 (0, 0))
  rw [show (w.alloc (.cells #[.int .i64 0, .int .i64 0, .int .i64 0] 23 (0, 0))).heap.size = w.heap.size + 1 by simp] at h2
  exact ⟨_, rfl, Kept.more (Kept.one _ _) _, kept_blk (Kept.one _ _) (blk_new _ _), h2⟩
theorem Pr.set {w : World} {x y z x' y' z' : Int} {u : World} (h : Pr w x y z u) (o : Nat) (v : Value)
    (e : (#[.int .i64 x, .int .i64 y, .int .i64 z] : Array Value).setIfInBounds o v = #[.int .i64 x', .int .i64 y', .int .i64 z']) : Pr w x' y' z' (u.setCell ⟨w.heap.size + 1, o, none⟩ v) :=
  ⟨Below.setCell h.kept (by simp) v, (Below.heap_setCell _ _ _ _ (show w.heap.size ≠ w.heap.size + 1 by omega)).trans h.res, by rw [← e]; exact blk_set h.blk o v⟩
theorem Pr.done {w : World} {x y z : Int} {u : World} (h : Pr w x y z u) (v0 v1 v2 : Value) :
    Kept w (((u.setCell ⟨w.heap.size, 0, none⟩ v0).setCell ⟨w.heap.size, 1, none⟩ v1).setCell ⟨w.heap.size, 2, none⟩ v2) ∧
    (((u.setCell ⟨w.heap.size, 0, none⟩ v0).setCell ⟨w.heap.size, 1, none⟩ v1).setCell ⟨w.heap.size, 2, none⟩ v2).heap[w.heap.size]? = some (.cells #[v0, v1, v2] 23 (0, 0)) :=
  ⟨Below.setCell (Below.setCell (Below.setCell h.kept (Nat.le_refl _) _) (Nat.le_refl _) _) (Nat.le_refl _) _, blk_set (blk_set (blk_set h.res 0 v0) 1 v1) 2 v2⟩
theorem Pr.cells {w : World} {x y z : Int} {u : World} (h : Pr w x y z u) : u.cell? ⟨w.heap.size + 1, 0, none⟩ = some (.int .i64 x) ∧ u.cell? ⟨w.heap.size + 1, 1, none⟩ = some (.int .i64 y) ∧ u.cell? ⟨w.heap.size + 1, 2, none⟩ = some (.int .i64 z) :=
  ⟨blk_cell h.blk 0, blk_cell h.blk 1, blk_cell h.blk 2⟩
theorem rright_pr {w : World} {x y z : Int} {q : Nat} {xs : Array Value} {t : TypeId} {b : Bool} (hz : Hid (rightB x y z = b)) {u : World} (h : Pr w x y z u) (hq : u.heap[q]? = some (.cells xs t (0, 0))) :
    Calls Tryd.prog 8 #[.agg #[.int .i64 x, .int .i64 y, .int .i64 z]] u fun e w' => e = .returned (.bool b) ∧ Pr w x y z w' ∧ w'.heap[q]? = some (.cells xs t (0, 0)) :=
  (rright_as hz).mono fun _ _ ⟨he, hk⟩ => ⟨he, h.go hk, kept_blk hk hq⟩
theorem rtext_pr {w : World} {x y z : Int} {q : Nat} {xs : Array Value} {t : TypeId} {D : ByteArray} (hr : rightB x y z = true) (hD : Hid (D.data.toList = textL x y z)) {u : World} (h : Pr w x y z u) (hq : u.heap[q]? = some (.cells xs t (0, 0))) :
    Calls Tryd.prog 12 #[.agg #[.int .i64 x, .int .i64 y, .int .i64 z]] u fun e w' => e = .returned (.string D) ∧ Pr w x y z w' ∧ w'.heap[q]? = some (.cells xs t (0, 0)) := by
  obtain ⟨h1, h2, h3⟩ := right_iff.1 hr
  exact (rtext_as (show I64 x from ⟨by omega, by omega⟩) (show I64 y from ⟨by omega, by omega⟩) (show I64 z from ⟨by omega, by omega⟩) hD).mono fun _ _ ⟨he, hk⟩ => ⟨he, h.go hk, kept_blk hk hq⟩
theorem ret_twoB {a b : Value} {x y : Bool} (h1 : a = b) (h2 : x = y) : Ending.returned (.tuple #[a, .bool x]) = .returned (.tuple #[b, .bool y]) := by rw [h1, h2]
def In9 (x : Int) : Prop := 0 ≤ x ∧ x ≤ 1000000009

set_option maxRecDepth 100000 in
set_option maxHeartbeats 4000000 in
theorem rparse_any (t : ByteArray) (ht : t.size ≤ 1000000) (w : World) :
    Calls Tryd.prog 25 #[.string t] w fun e w' => e = .returned (.tuple #[parsedV t.data.toList, .bool (isT t.data.toList)]) ∧ Kept w w' := by
  obtain ⟨W, hW, hA0⟩ := Pr.new w
  have HW := Lib.hid hW
  have HL := Lib.hid (size_list t)
  have HY := Lib.hid (parsed_yes (l := t.data.toList))
  have HN := Lib.hid (parsed_no (l := t.data.toList))
  clear hW
  go_enter Tryd.func25, Tryd.ntmps25
  go_wp2_with fail
  rw [HW.out]
  go_wp2_with fail
  go_loopw [5, 6] (fun p' k' wr => ∃ (k p : Nat) (x y z : Int), k ≤ t.size ∧ k' = .int .i64 (k : Int) ∧ p' = .int .i64 (p : Int) ∧ p ≤ 2 ∧ In9 x ∧ In9 y ∧ In9 z ∧ Pr w x y z wr ∧ Rp t.data.toList k p x y z) (fun _ k' _ => t.size - (intOf k').toNat)
  case atStart => exact ⟨0, 0, 0, 0, 0, Nat.zero_le _, rfl, rfl, by omega, ⟨by omega, by omega⟩, ⟨by omega, by omega⟩, ⟨by omega, by omega⟩, hA0, Rp.start _⟩
  case round =>
    obtain ⟨k, p, x, y, z, hk, rfl, rfl, hp, ⟨hx0, hx1⟩, ⟨hy0, hy1⟩, ⟨hz0, hz1⟩, hA, hR⟩ := hrel
    by_cases hlt : k < t.size
    · obtain ⟨c, hidx, c0, c255, hc⟩ := byteAt t k hlt
      have hkl : Hid (k < t.data.toList.length) := Lib.hid (by rw [← HL.out]; exact hlt)
      have r0 := blk_cell hA.res 0
      have r1 := blk_cell hA.res 1
      have r2 := blk_cell hA.res 2
      have f0 := blk_free hA.res 0
      have f1 := blk_free hA.res 1
      have f2 := blk_free hA.res 2
      by_cases h46 : c = 46
      · have hd := Lib.hid h46
        have he : (c == 46) = true := by rw [h46]; rfl
        clear h46
        by_cases hp2 : p ≤ 1
        · go_wp2_with fail
          go_roundw
          case rel => exact ⟨k + 1, p + 1, x, y, z, by omega, by go_num, by go_num, by omega, ⟨hx0, hx1⟩, ⟨hy0, hy1⟩, ⟨hz0, hz1⟩, hA, hR.dot hkl.out hc.out hd.out hp2⟩
          case measure => simp [intOf]; omega
        · obtain rfl : p = 2 := by omega
          have hT := Lib.hid (hR.over hkl.out hc.out hd.out)
          go_wp2_with fail
          obtain ⟨e1, e2⟩ := hA.done (.int .i64 0) (.int .i64 0) (.int .i64 0)
          refine bodyPost_ret (results_row_tmp rfl _ _ w.heap.size 23 _ (0, 0) _ rfl e2 Tryd.underlying23 rfl info_id) rfl ?_
          exact ⟨ret_twoB (HN.out hT.out).1.symm hT.out.symm, e1⟩
      · have he : (c == 46) = false := by simpa using h46
        have hn46 := Lib.hid h46
        clear h46
        rcases (by omega : p = 0 ∨ p = 1 ∨ p = 2) with rfl | rfl | rfl
        · have g := blk_cell hA.blk 0
          have gd := blk_cell (hA.go (Kept.refl _).drew).blk 0
          have gf := blk_free (hA.go (Kept.refl _).drew).blk 0
          by_cases h48 : c < 48
          · have hT := Lib.hid (hR.bad (cur := x) hkl.out hc.out hn46.out (by simp; omega) (by omega))
            go_wp2_with fail
            obtain ⟨e1, e2⟩ := hA.done (.int .i64 0) (.int .i64 0) (.int .i64 0)
            refine bodyPost_ret (results_row_tmp rfl _ _ w.heap.size 23 _ (0, 0) _ rfl e2 Tryd.underlying23 rfl info_id) rfl ?_
            exact ⟨ret_twoB (HN.out hT.out).1.symm hT.out.symm, e1⟩
          by_cases h57 : 57 < c
          · have hT := Lib.hid (hR.bad (cur := x) hkl.out hc.out hn46.out (by simp; omega) (by omega))
            go_wp2_with fail
            obtain ⟨e1, e2⟩ := hA.done (.int .i64 0) (.int .i64 0) (.int .i64 0)
            refine bodyPost_ret (results_row_tmp rfl _ _ w.heap.size 23 _ (0, 0) _ rfl e2 Tryd.underlying23 rfl info_id) rfl ?_
            exact ⟨ret_twoB (HN.out hT.out).1.symm hT.out.symm, e1⟩
          by_cases hm : 100000000 < x
          · have hT := Lib.hid (hR.bad (cur := x) hkl.out hc.out hn46.out (by simp; omega) (by omega))
            go_wp2_with fail
            obtain ⟨e1, e2⟩ := hA.done (.int .i64 0) (.int .i64 0) (.int .i64 0)
            refine bodyPost_ret (results_row_tmp rfl _ _ w.heap.size 23 _ (0, 0) _ rfl e2 Tryd.underlying23 rfl info_id) rfl ?_
            exact ⟨ret_twoB (HN.out hT.out).1.symm hT.out.symm, e1⟩
          have hR2 := Lib.hid (hR.digit (x' := 10 * x + c - 48) (y' := y) (z' := z) (cur := x) hkl.out hc.out (by omega) (by omega) (by simp; omega) (by omega) (by simp))
          have w1 : IntKind.i64.wrap (10 * x) = 10 * x := IntWalk.i64_in _ (by omega)
          have w2 : IntKind.i64.wrap (10 * x + c) = 10 * x + c := IntWalk.i64_in _ (by omega)
          have w3 : IntKind.i64.wrap (10 * x + c - 48) = 10 * x + c - 48 := IntWalk.i64_in _ (by omega)
          go_wp2_with fail
          refine wp_region_still_tail 14 (by kernel_rfl) (by kernel_rfl) ?_
          change wpStill _ _ (World.drew _) (fun a' => wpList _ _ _ _ a' (World.drew _)) _ _
          simp only [List.take_succ_cons, List.take_zero, List.drop_succ_cons, List.drop_zero]
          repeat still_step
          refine wpStill_nil ?_
          clear w1 w2 w3
          go_wp2_with fail
          go_roundw
          case rel => exact ⟨k + 1, 0, (10 * x + c - 48), y, z, by omega, by go_num, rfl, by omega, ⟨by omega, by omega⟩, ⟨hy0, hy1⟩, ⟨hz0, hz1⟩, (hA.go (Kept.refl _).drew).set 0 _ rfl, hR2.out⟩
          case measure => simp [intOf]; omega
        · have g := blk_cell hA.blk 1
          have gd := blk_cell (hA.go (Kept.refl _).drew).blk 1
          have gf := blk_free (hA.go (Kept.refl _).drew).blk 1
          by_cases h48 : c < 48
          · have hT := Lib.hid (hR.bad (cur := y) hkl.out hc.out hn46.out (by simp; omega) (by omega))
            go_wp2_with fail
            obtain ⟨e1, e2⟩ := hA.done (.int .i64 0) (.int .i64 0) (.int .i64 0)
            refine bodyPost_ret (results_row_tmp rfl _ _ w.heap.size 23 _ (0, 0) _ rfl e2 Tryd.underlying23 rfl info_id) rfl ?_
            exact ⟨ret_twoB (HN.out hT.out).1.symm hT.out.symm, e1⟩
          by_cases h57 : 57 < c
          · have hT := Lib.hid (hR.bad (cur := y) hkl.out hc.out hn46.out (by simp; omega) (by omega))
            go_wp2_with fail
            obtain ⟨e1, e2⟩ := hA.done (.int .i64 0) (.int .i64 0) (.int .i64 0)
            refine bodyPost_ret (results_row_tmp rfl _ _ w.heap.size 23 _ (0, 0) _ rfl e2 Tryd.underlying23 rfl info_id) rfl ?_
            exact ⟨ret_twoB (HN.out hT.out).1.symm hT.out.symm, e1⟩
          by_cases hm : 100000000 < y
          · have hT := Lib.hid (hR.bad (cur := y) hkl.out hc.out hn46.out (by simp; omega) (by omega))
            go_wp2_with fail
            obtain ⟨e1, e2⟩ := hA.done (.int .i64 0) (.int .i64 0) (.int .i64 0)
            refine bodyPost_ret (results_row_tmp rfl _ _ w.heap.size 23 _ (0, 0) _ rfl e2 Tryd.underlying23 rfl info_id) rfl ?_
            exact ⟨ret_twoB (HN.out hT.out).1.symm hT.out.symm, e1⟩
          have hR2 := Lib.hid (hR.digit (x' := x) (y' := 10 * y + c - 48) (z' := z) (cur := y) hkl.out hc.out (by omega) (by omega) (by simp; omega) (by omega) (by simp))
          have w1 : IntKind.i64.wrap (10 * y) = 10 * y := IntWalk.i64_in _ (by omega)
          have w2 : IntKind.i64.wrap (10 * y + c) = 10 * y + c := IntWalk.i64_in _ (by omega)
          have w3 : IntKind.i64.wrap (10 * y + c - 48) = 10 * y + c - 48 := IntWalk.i64_in _ (by omega)
          go_wp2_with fail
          refine wp_region_still_tail 14 (by kernel_rfl) (by kernel_rfl) ?_
          change wpStill _ _ (World.drew _) (fun a' => wpList _ _ _ _ a' (World.drew _)) _ _
          simp only [List.take_succ_cons, List.take_zero, List.drop_succ_cons, List.drop_zero]
          repeat still_step
          refine wpStill_nil ?_
          clear w1 w2 w3
          go_wp2_with fail
          go_roundw
          case rel => exact ⟨k + 1, 1, x, (10 * y + c - 48), z, by omega, by go_num, rfl, by omega, ⟨hx0, hx1⟩, ⟨by omega, by omega⟩, ⟨hz0, hz1⟩, (hA.go (Kept.refl _).drew).set 1 _ rfl, hR2.out⟩
          case measure => simp [intOf]; omega
        · have g := blk_cell hA.blk 2
          have gd := blk_cell (hA.go (Kept.refl _).drew).blk 2
          have gf := blk_free (hA.go (Kept.refl _).drew).blk 2
          by_cases h48 : c < 48
          · have hT := Lib.hid (hR.bad (cur := z) hkl.out hc.out hn46.out (by simp; omega) (by omega))
            go_wp2_with fail
            obtain ⟨e1, e2⟩ := hA.done (.int .i64 0) (.int .i64 0) (.int .i64 0)
            refine bodyPost_ret (results_row_tmp rfl _ _ w.heap.size 23 _ (0, 0) _ rfl e2 Tryd.underlying23 rfl info_id) rfl ?_
            exact ⟨ret_twoB (HN.out hT.out).1.symm hT.out.symm, e1⟩
          by_cases h57 : 57 < c
          · have hT := Lib.hid (hR.bad (cur := z) hkl.out hc.out hn46.out (by simp; omega) (by omega))
            go_wp2_with fail
            obtain ⟨e1, e2⟩ := hA.done (.int .i64 0) (.int .i64 0) (.int .i64 0)
            refine bodyPost_ret (results_row_tmp rfl _ _ w.heap.size 23 _ (0, 0) _ rfl e2 Tryd.underlying23 rfl info_id) rfl ?_
            exact ⟨ret_twoB (HN.out hT.out).1.symm hT.out.symm, e1⟩
          by_cases hm : 100000000 < z
          · have hT := Lib.hid (hR.bad (cur := z) hkl.out hc.out hn46.out (by simp; omega) (by omega))
            go_wp2_with fail
            obtain ⟨e1, e2⟩ := hA.done (.int .i64 0) (.int .i64 0) (.int .i64 0)
            refine bodyPost_ret (results_row_tmp rfl _ _ w.heap.size 23 _ (0, 0) _ rfl e2 Tryd.underlying23 rfl info_id) rfl ?_
            exact ⟨ret_twoB (HN.out hT.out).1.symm hT.out.symm, e1⟩
          have hR2 := Lib.hid (hR.digit (x' := x) (y' := y) (z' := 10 * z + c - 48) (cur := z) hkl.out hc.out (by omega) (by omega) (by simp; omega) (by omega) (by simp))
          have w1 : IntKind.i64.wrap (10 * z) = 10 * z := IntWalk.i64_in _ (by omega)
          have w2 : IntKind.i64.wrap (10 * z + c) = 10 * z + c := IntWalk.i64_in _ (by omega)
          have w3 : IntKind.i64.wrap (10 * z + c - 48) = 10 * z + c - 48 := IntWalk.i64_in _ (by omega)
          go_wp2_with fail
          refine wp_region_still_tail 14 (by kernel_rfl) (by kernel_rfl) ?_
          change wpStill _ _ (World.drew _) (fun a' => wpList _ _ _ _ a' (World.drew _)) _ _
          simp only [List.take_succ_cons, List.take_zero, List.drop_succ_cons, List.drop_zero]
          repeat still_step
          refine wpStill_nil ?_
          clear w1 w2 w3
          go_wp2_with fail
          go_roundw
          case rel => exact ⟨k + 1, 2, x, y, (10 * z + c - 48), by omega, by go_num, rfl, by omega, ⟨hx0, hx1⟩, ⟨hy0, hy1⟩, ⟨by omega, by omega⟩, (hA.go (Kept.refl _).drew).set 2 _ rfl, hR2.out⟩
          case measure => simp [intOf]; omega
    · have hkt : k = t.data.toList.length := by rw [← HL.out]; omega
      subst hkt
      have HS := Lib.hid (hR.stop hx0 hy0 hz0)
      have hA2 := hA.go (Kept.refl _).drew
      have g0 := blk_cell hA.blk 0
      have g1 := blk_cell hA.blk 1
      have g2 := blk_cell hA.blk 2
      go_wp2_with fail
      go_region_held3 (fun w' => w'.cell? ⟨w.heap.size + 1, 0, none⟩ = some (.int .i64 x) ∧ w'.cell? ⟨w.heap.size + 1, 1, none⟩ = some (.int .i64 y) ∧ w'.cell? ⟨w.heap.size + 1, 2, none⟩ = some (.int .i64 z))
        (first | (with_reducible exact Pr.cells hA2) | (with_reducible exact (hA.go (Kept.drew (Kept.one _ _))).cells) | (with_reducible exact (hA2.go (Kept.one _ _)).cells) | go_keep) (fail)
      all_goals
        obtain ⟨X, hXe⟩ : ∃ X, World.drew (wr.alloc (.cells #[.int .i64 x, .int .i64 y, .int .i64 z] 23 (0, 0))) = X := ⟨_, rfl⟩
        have hX : Pr w x y z X := by rw [← hXe]; exact hA.go (Kept.drew (Kept.one _ _))
        have hB0 : X.heap[wr.heap.size]? = some (.cells #[.int .i64 x, .int .i64 y, .int .i64 z] 23 (0, 0)) := by rw [← hXe]; exact blk_new _ _
        rw [hXe]
        clear hXe g0 g1 g2
        have c0 := blk_cell hB0 0
        have c1 := blk_cell hB0 1
        have c2 := blk_cell hB0 2
        by_cases hr : rightB x y z = true
        · have hr' : Hid (rightB x y z = true) := hr
          have HR : Hid (rightB x y z = true) := hr
          obtain ⟨D, hD, hDs⟩ : ∃ D : ByteArray, Hid (D.data.toList = textL x y z) ∧ True := ⟨⟨(textL x y z).toArray⟩, rfl, trivial⟩
          by_cases ht : textL x y z = t.data.toList
          · have hT : Hid (isT t.data.toList = true) := Lib.hid (HS.out.2 hr ht)
            have hv := HS.out.1 hT.out
            rw [hv.1, hv.2.1, hv.2.2] at HY
            obtain rfl : D = t := by rw [str_of D _ (hD.out.trans ht), ← str_of t _ rfl]
            clear ht hr hv
            go_wp2_with (first
              | (go_at_call 8; refine (rright_pr (by assumption) hX hB0).mono ?_; rintro e u ⟨rfl, hB, hB2⟩; have r0 := blk_cell hB.res 0; have r1 := blk_cell hB.res 1; have r2 := blk_cell hB.res 2; have f0 := blk_free hB.res 0; have f1 := blk_free hB.res 1; have f2 := blk_free hB.res 2; have d0 := blk_cell hB2 0; have d1 := blk_cell hB2 1; have d2 := blk_cell hB2 2)
              | (go_at_call 12; refine (rtext_pr HR.out hD hB hB2).mono ?_; rintro e v ⟨rfl, hC, hC2⟩; clear r0 r1 r2 f0 f1 f2 d0 d1 d2; have r0 := blk_cell hC.res 0; have r1 := blk_cell hC.res 1; have r2 := blk_cell hC.res 2; have f0 := blk_free hC.res 0; have f1 := blk_free hC.res 1; have f2 := blk_free hC.res 2; have d0 := blk_cell hC2 0; have d1 := blk_cell hC2 1; have d2 := blk_cell hC2 2))
            obtain ⟨e1, e2⟩ := hC.done (.int .i64 x) (.int .i64 y) (.int .i64 z)
            refine bodyPost_ret (results_row_tmp rfl _ _ w.heap.size 23 _ (0, 0) _ rfl e2 Tryd.underlying23 rfl info_id) rfl ?_
            exact ⟨ret_twoB (HY.out hT.out).1.symm hT.out.symm, e1⟩
          · have hT : Hid (isT t.data.toList = false) := Lib.hid (by
              cases h : isT t.data.toList with
              | false => rfl
              | true =>
                exfalso
                have hv := HS.out.1 h
                have h2 := h
                unfold isT at h2
                rw [hv.1, hv.2.1, hv.2.2] at h2
                simp only [Bool.and_eq_true, decide_eq_true_eq] at h2
                exact ht h2.2)
            have hne := neq_list (a := D) (b := t) (fun e => ht (hD.out.symm.trans e))
            clear ht hr
            go_wp2_with (first
              | (go_at_call 8; refine (rright_pr (by assumption) hX hB0).mono ?_; rintro e u ⟨rfl, hB, hB2⟩; have r0 := blk_cell hB.res 0; have r1 := blk_cell hB.res 1; have r2 := blk_cell hB.res 2; have f0 := blk_free hB.res 0; have f1 := blk_free hB.res 1; have f2 := blk_free hB.res 2; have d0 := blk_cell hB2 0; have d1 := blk_cell hB2 1; have d2 := blk_cell hB2 2)
              | (go_at_call 12; refine (rtext_pr HR.out hD hB hB2).mono ?_; rintro e v ⟨rfl, hC, hC2⟩; clear r0 r1 r2 f0 f1 f2 d0 d1 d2; have r0 := blk_cell hC.res 0; have r1 := blk_cell hC.res 1; have r2 := blk_cell hC.res 2; have f0 := blk_free hC.res 0; have f1 := blk_free hC.res 1; have f2 := blk_free hC.res 2; have d0 := blk_cell hC2 0; have d1 := blk_cell hC2 1; have d2 := blk_cell hC2 2))
            obtain ⟨e1, e2⟩ := hC.done (.int .i64 0) (.int .i64 0) (.int .i64 0)
            refine bodyPost_ret (results_row_tmp rfl _ _ w.heap.size 23 _ (0, 0) _ rfl e2 Tryd.underlying23 rfl info_id) rfl ?_
            exact ⟨ret_twoB (HN.out hT.out).1.symm hT.out.symm, e1⟩
        · have hr' : Hid (rightB x y z = false) := Lib.hid (by simpa using hr)
          have hT : Hid (isT t.data.toList = false) := Lib.hid (by
            cases h : isT t.data.toList with
            | false => rfl
            | true =>
              exfalso
              have hv := HS.out.1 h
              have h2 := h
              unfold isT at h2
              rw [hv.1, hv.2.1, hv.2.2] at h2
              simp only [Bool.and_eq_true, decide_eq_true_eq] at h2
              exact hr h2.1)
          clear hr
          go_wp2_with (go_at_call 8; refine (rright_pr (by assumption) hX hB0).mono ?_; rintro e u ⟨rfl, hB, hB2⟩; have r0 := blk_cell hB.res 0; have r1 := blk_cell hB.res 1; have r2 := blk_cell hB.res 2; have f0 := blk_free hB.res 0; have f1 := blk_free hB.res 1; have f2 := blk_free hB.res 2; have d0 := blk_cell hB2 0; have d1 := blk_cell hB2 1; have d2 := blk_cell hB2 2)
          obtain ⟨e1, e2⟩ := hB.done (.int .i64 0) (.int .i64 0) (.int .i64 0)
          refine bodyPost_ret (results_row_tmp rfl _ _ w.heap.size 23 _ (0, 0) _ rfl e2 Tryd.underlying23 rfl info_id) rfl ?_
          exact ⟨ret_twoB (HN.out hT.out).1.symm hT.out.symm, e1⟩

end Go.Proofs.YtjibkkgjkmdjgaaDoor.Id
