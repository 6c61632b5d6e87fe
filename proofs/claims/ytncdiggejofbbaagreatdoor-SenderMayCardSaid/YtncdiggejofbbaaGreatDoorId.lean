/- Package ident: what may be, and the one row of keys; and the document's. -/
import Derived.Test.YtncdiggejofbbaaGreatDoorIdM0
import Derived.Test.YtncdiggejofbbaaGreatDoorSt
import Derived.Test.YtncdiggejofbbaaGreatDoorBx
import Derived.BigQuiet
import Derived.Lib.QuietBelow
import Derived.Deep.RegionHeld3
namespace Go.Proofs.YtncdiggejofbbaaGreatDoor.Id
open Go.RowKit Go.Sort St IdM
set_option linter.unusedVariables false


theorem within_as {n a b : Int} {z : Bool} (hz : Hid (decide (a ≤ n ∧ n ≤ b) = z)) {w : World} :
    Calls Tryz.prog 91 #[.int .i64 n, .int .i64 a, .int .i64 b] w fun e w' => e = .returned (.bool z) ∧ w = w' := by
  by_cases h1 : a ≤ n
  · by_cases h2 : n ≤ b
    · have hz' := Lib.hid (show z = true by rw [← hz.out]; simp [h1, h2])
      go_enter Tryz.func91, Tryz.ntmps91
      go_wp2_with fail
      go_ret
      exact ⟨ret_bool hz'.out.symm, rfl⟩
    · have hz' := Lib.hid (show z = false by rw [← hz.out]; simp [h2])
      go_enter Tryz.func91, Tryz.ntmps91
      go_wp2_with fail
      go_ret
      exact ⟨ret_bool hz'.out.symm, rfl⟩
  · have hz' := Lib.hid (show z = false by rw [← hz.out]; simp [h1])
    go_enter Tryz.func91, Tryz.ntmps91
    go_wp2_with fail
    go_ret
    exact ⟨ret_bool hz'.out.symm, rfl⟩

set_option maxHeartbeats 400000 in
theorem right_as {n i s : Int} {z : Bool} (hz : Hid (rightB n i s = z)) {w : World} :
    Calls Tryz.prog 90 #[.agg #[.int .i64 n, .int .i64 i, .int .i64 s]] w fun e w' => e = .returned (.bool z) ∧ Kept w w' := by
  obtain ⟨z1, h1⟩ : ∃ z1, Hid (decide (0 ≤ n ∧ n ≤ 63) = z1) := ⟨_, rfl⟩
  obtain ⟨z2, h2⟩ : ∃ z2, Hid (decide (0 ≤ i ∧ i ≤ 65535) = z2) := ⟨_, rfl⟩
  obtain ⟨z3, h3⟩ : ∃ z3, Hid (decide (1 ≤ s ∧ s ≤ 16777215) = z3) := ⟨_, rfl⟩
  have hb := Lib.hid (show z = (z1 && (z2 && z3)) by rw [← hz.out, ← h1.out, ← h2.out, ← h3.out]; rfl)
  clear hz
  cases z1 <;> cases z2 <;> cases z3
  all_goals
    go_enter Tryz.func90, Tryz.ntmps90
    go_wp2_with (go_at_call 91; refine (within_as (by assumption)).mono ?_; rintro e w' ⟨rfl, rfl⟩)
    go_ret
    exact ⟨ret_bool hb.out.symm, Kept.one _ _⟩

set_option maxHeartbeats 400000 in
theorem key_as {n i s a : Int} {z : Bool} (hz : Hid (keyB n i s a = z)) {w : World} :
    Calls Tryz.prog 74 #[.agg #[.int .i64 n, .int .i64 i, .int .i64 s, .int .i64 a]] w fun e w' => e = .returned (.bool z) ∧ Kept w w' := by
  obtain ⟨z1, h1⟩ : ∃ z1, Hid (rightB n i s = z1) := ⟨_, rfl⟩
  obtain ⟨z2, h2⟩ : ∃ z2, Hid (decide (0 ≤ a ∧ a ≤ 5) = z2) := ⟨_, rfl⟩
  have hb := Lib.hid (show z = (z1 && z2) by rw [← hz.out, ← h1.out, ← h2.out]; rfl)
  clear hz
  cases z1 <;> cases z2
  all_goals
    go_enter Tryz.func74, Tryz.ntmps74
    go_wp2_with (first
      | (go_at_call 90; refine (right_as (by assumption)).mono ?_; rintro e w1 ⟨rfl, hk⟩
         have hk1 := (Kept.one w _).trans hk
         have hc := hk.cell (p := ⟨w.heap.size, 3, none⟩) (by simp))
      | (go_at_call 91; refine (within_as (by assumption)).mono ?_; rintro e w' ⟨rfl, rfl⟩))
    go_ret
    exact ⟨ret_bool hb.out.symm, hk1⟩

set_option maxHeartbeats 800000 in
theorem rright_as {n i s : Int} {z : Bool} (hz : Hid (rightB n i s = z)) {w : World} :
    Calls Tryz.prog 17 #[.agg #[.int .i64 n, .int .i64 i, .int .i64 s]] w fun e w' => e = .returned (.bool z) ∧ Kept w w' := by
  rcases (by omega : n < 0 ∨ (0 ≤ n ∧ 63 < n) ∨ (0 ≤ n ∧ n ≤ 63 ∧ i < 0) ∨ (0 ≤ n ∧ n ≤ 63 ∧ 0 ≤ i ∧ 65535 < i) ∨ (0 ≤ n ∧ n ≤ 63 ∧ 0 ≤ i ∧ i ≤ 65535 ∧ s < 1) ∨ (0 ≤ n ∧ n ≤ 63 ∧ 0 ≤ i ∧ i ≤ 65535 ∧ 1 ≤ s ∧ 16777215 < s) ∨ (0 ≤ n ∧ n ≤ 63 ∧ 0 ≤ i ∧ i ≤ 65535 ∧ 1 ≤ s ∧ s ≤ 16777215))
    with h | ⟨h1, h⟩ | ⟨h1, h2, h⟩ | ⟨h1, h2, h3, h⟩ | ⟨h1, h2, h3, h4, h⟩ | ⟨h1, h2, h3, h4, h5, h⟩ | ⟨h1, h2, h3, h4, h5, h6⟩
  case inr.inr.inr.inr.inr.inr =>
    have hb := Lib.hid (show z = true by rw [← hz.out]; exact right_iff.2 ⟨⟨h1, h2⟩, ⟨h3, h4⟩, h5, h6⟩)
    go_enter Tryz.func17, Tryz.ntmps17
    go_wp2_with fail
    go_ret
    exact ⟨ret_bool hb.out.symm, Kept.one _ _⟩
  all_goals
    have hb := Lib.hid (show z = false by rw [← hz.out]; exact right_no (by omega))
    go_enter Tryz.func17, Tryz.ntmps17
    go_wp2_with fail
    go_ret
    exact ⟨ret_bool (by first | exact hb.out.symm | (rw [hb.out]; exact decide_eq_false (by omega))), Kept.one _ _⟩

set_option maxHeartbeats 400000 in
theorem rkey_as {n i s a : Int} {z : Bool} (hz : Hid (keyB n i s a = z)) {w : World} :
    Calls Tryz.prog 16 #[.agg #[.int .i64 n, .int .i64 i, .int .i64 s, .int .i64 a]] w fun e w' => e = .returned (.bool z) ∧ Kept w w' := by
  obtain ⟨z1, h1⟩ : ∃ z1, Hid (rightB n i s = z1) := ⟨_, rfl⟩
  rcases (by omega : a < 0 ∨ (0 ≤ a ∧ 5 < a) ∨ (0 ≤ a ∧ a ≤ 5)) with h | ⟨h2, h⟩ | ⟨h2, h⟩
  all_goals
    have hb := Lib.hid (show z = (z1 && decide (0 ≤ a ∧ a ≤ 5)) by rw [← hz.out, ← h1.out]; rfl)
    have hd := Lib.hid (show decide (0 ≤ a ∧ a ≤ 5) = _ by first | exact decide_eq_true (by omega) | exact decide_eq_false (by omega))
    clear hz
    cases z1
    all_goals
      go_enter Tryz.func16, Tryz.ntmps16
      go_wp2_with (go_at_call 17; refine (rright_as (by assumption)).mono ?_; rintro e w1 ⟨rfl, hk⟩
                   have hk1 := (Kept.one w _).trans hk
                   have hc := hk.cell (p := ⟨w.heap.size, 3, none⟩) (by simp))
      go_ret
      exact ⟨ret_bool (by rw [hb.out, hd.out]; first | rfl | exact decide_eq_false (by omega)), hk1⟩





end Go.Proofs.YtncdiggejofbbaaGreatDoor.Id
