/- Package setup: its settings, their words, and places. -/
import Derived.Test.YtcoagmkncjonmaaGreatDoorSuM
import Derived.Test.YtcoagmkncjonmaaGreatDoorBlk
import Derived.Test.YtcoagmkncjonmaaGreatDoorAu
import Derived.StillTailTactics
import Derived.BigRegion
import Derived.LoopTactic
namespace Go.Proofs.YtcoagmkncjonmaaGreatDoor.Su
open Go.RowKit Go.Sort St Blk
open Ad (Cf info_cf load_l load_w)
set_option linter.unusedVariables false
set_option linter.unusedSimpArgs false

/-- a setting, of a configuration that lies in block b -/
def setR (b k : Nat) : List Value := [.string (wordB k), .pointer (some ⟨b, k, none⟩)]
def setA (b : Nat) : Array Value := ((List.range 13).flatMap (setR b)).toArray
theorem set_at (b : Nat) {k : Nat} (h : k < 13) : (setA b)[k * 2]? = some (.string (wordB k)) ∧ (setA b)[k * 2 + 1]? = some (.pointer (some ⟨b, k, none⟩)) := by
  rcases k_cases h with rfl | rfl | rfl | rfl | rfl | rfl | rfl | rfl | rfl | rfl | rfl | rfl | rfl <;> exact ⟨rfl, rfl⟩

set_option maxRecDepth 100000 in
set_option maxHeartbeats 2000000 in
theorem settings_any (b : Nat) (w : World) : Calls Tryz.prog 21 #[.pointer (some ⟨b, 0, none⟩)] w fun e w' => ∃ g, e = .returned (.slice (some ⟨g, 0, none⟩) 13 13) ∧ w.heap.size ≤ g ∧ w'.heap[g]? = some (.cells (setA b) 52 (0, 0)) ∧ Kept w w' := by
  go_enter Tryz.func21, Tryz.ntmps21
  go_wp2_with fail
  go_still_tail 52, (by kernel_rfl)
  go_wp2_with fail
  go_ret
  exact ⟨w.heap.size, rfl, Nat.le_refl _, blk_new _ _, ((Kept.refl w).more _).drew⟩

theorem place_none (b : Nat) (k : Int) (h : k < 0 ∨ 13 ≤ k) (w : World) : Calls Tryz.prog 28 #[.pointer (some ⟨b, 0, none⟩), .int .i64 k] w fun e w' => e = .returned (.pointer none) ∧ Kept w w' := by
  have HC := Lib.hid (fun w => settings_any b w)
  rcases h with h | h
  · go_enter Tryz.func28, Tryz.ntmps28
    go_wp2_with (go_at_call 21; refine (HC.out _).mono ?_; rintro e w1 ⟨g, rfl, hg, hb, hk⟩)
    go_ret
    exact ⟨rfl, hk⟩
  · have h0 : ¬ k < 0 := by omega
    go_enter Tryz.func28, Tryz.ntmps28
    go_wp2_with (go_at_call 21; refine (HC.out _).mono ?_; rintro e w1 ⟨g, rfl, hg, hb, hk⟩)
    go_ret
    exact ⟨rfl, hk⟩
theorem place_some (b k : Nat) (h : k < 13) (w : World) : Calls Tryz.prog 28 #[.pointer (some ⟨b, 0, none⟩), .int .i64 (k : Int)] w fun e w' => e = .returned (.pointer (some ⟨b, k, none⟩)) ∧ Kept w w' := by
  have HC := Lib.hid (fun w => settings_any b w)
  have h0 : ¬ (k : Int) < 0 := by omega
  have h1 : ¬ 13 ≤ (k : Int) := by omega
  have h2 : (k : Int) < 13 := by omega
  have HS := Lib.hid (set_at b h)
  go_enter Tryz.func28, Tryz.ntmps28
  go_wp2_with (go_at_call 21; refine (HC.out _).mono ?_; rintro e w1 ⟨g, rfl, hg, hb, hk⟩; have c1 : w1.cell? ⟨g, k * 2 + 1, none⟩ = some (.pointer (some ⟨b, k, none⟩)) := (by rw [blk_cell hb]; exact HS.out.2); clear hb)
  go_ret
  exact ⟨rfl, hk⟩

theorem get_none (c : Cf) (k : Int) (h : k < 0 ∨ 13 ≤ k) (w : World) : Calls Tryz.prog 14 #[.agg c.arr, .int .i64 k] w fun e w' => e = .returned (.int .i64 0) ∧ Kept w w' := by
  obtain ⟨W, hW⟩ : ∃ W, w.alloc (.cells c.arr 24) = W := ⟨_, rfl⟩
  have HW := Lib.hid hW
  have HK := Lib.hid (show Kept w W by rw [← hW]; exact Kept.one _ _)
  have HC := Lib.hid (place_none w.heap.size k h W)
  clear hW h
  go_enter Tryz.func14, Tryz.ntmps14
  go_upto_region 1 with fail
  rw [HW.out]
  go_wp2_with (go_at_call 28; refine HC.out.mono ?_; rintro e w1 ⟨rfl, hk⟩)
  go_ret
  exact ⟨rfl, HK.out.trans hk⟩
theorem get_some (c : Cf) (k : Nat) (h : k < 13) (w : World) : Calls Tryz.prog 14 #[.agg c.arr, .int .i64 (k : Int)] w fun e w' => e = .returned (.int .i64 ((numsL c).getD k 0)) ∧ Kept w w' := by
  obtain ⟨W, hW⟩ : ∃ W, w.alloc (.cells c.arr 24) = W := ⟨_, rfl⟩
  have HW := Lib.hid hW
  have HK := Lib.hid (show Kept w W by rw [← hW]; exact Kept.one _ _)
  have HB := Lib.hid (show W.heap[w.heap.size]? = some (.cells c.arr 24 (0, 0)) by rw [← hW]; exact blk_new _ _)
  have HC := Lib.hid (place_some w.heap.size k h W)
  have HA := Lib.hid (arr_at c h)
  obtain ⟨n, hn⟩ : ∃ n, (numsL c).getD k 0 = n := ⟨_, rfl⟩
  rw [hn] at HA ⊢
  clear hW h hn
  go_enter Tryz.func14, Tryz.ntmps14
  go_upto_region 1 with fail
  rw [HW.out]
  go_wp2_with (go_at_call 28; refine HC.out.mono ?_; rintro e w1 ⟨rfl, hk⟩; have c1 : w1.cell? ⟨w.heap.size, k, none⟩ = some (.int .i64 n) := (by rw [blk_cell (kept_at hk HB.out)]; exact HA.out))
  go_ret
  exact ⟨rfl, HK.out.trans hk⟩

theorem first_any (w : World) : Calls Tryz.prog 12 #[] w fun e w' => e = .returned (.agg (mk firstL none 0 0).arr) ∧ Kept w w' := by
  go_enter Tryz.func12, Tryz.ntmps12
  go_wp2_with fail
  refine bodyPost_ret (results_cell_row rfl _ _ w.heap.size 24 (mk firstL none 0 0).arr (0, 0) _ rfl (blk_new w _) Tryz.underlying24 rfl info_cf) rfl ?_
  exact ⟨rfl, Kept.one _ _⟩

end Go.Proofs.YtcoagmkncjonmaaGreatDoor.Su
