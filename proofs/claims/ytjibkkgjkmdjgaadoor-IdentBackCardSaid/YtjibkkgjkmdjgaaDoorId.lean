/- Package ident: what may be, and the one row of keys; and the document's. -/
import Derived.Test.YtjibkkgjkmdjgaaDoorIdMath
import Derived.Test.YtjibkkgjkmdjgaaDoorSt
import Derived.Test.YtjibkkgjkmdjgaaDoorShelf
import Derived.BigQuiet
import Derived.Lib.QuietBelow
import Derived.Deep.RegionHeld3
namespace Go.Proofs.YtjibkkgjkmdjgaaDoor.Id
open Go.RowKit Go.Sort St IdM
set_option linter.unusedVariables false


theorem within_as {n a b : Int} {z : Bool} (hz : Hid (decide (a ≤ n ∧ n ≤ b) = z)) {w : World} :
    Calls Tryd.prog 29 #[.int .i64 n, .int .i64 a, .int .i64 b] w fun e w' => e = .returned (.bool z) ∧ w = w' := by
  by_cases h1 : a ≤ n
  · by_cases h2 : n ≤ b
    · have hz' := Lib.hid (show z = true by rw [← hz.out]; simp [h1, h2])
      go_enter Tryd.func29, Tryd.ntmps29
      go_wp2_with fail
      go_ret
      exact ⟨ret_bool hz'.out.symm, rfl⟩
    · have hz' := Lib.hid (show z = false by rw [← hz.out]; simp [h2])
      go_enter Tryd.func29, Tryd.ntmps29
      go_wp2_with fail
      go_ret
      exact ⟨ret_bool hz'.out.symm, rfl⟩
  · have hz' := Lib.hid (show z = false by rw [← hz.out]; simp [h1])
    go_enter Tryd.func29, Tryd.ntmps29
    go_wp2_with fail
    go_ret
    exact ⟨ret_bool hz'.out.symm, rfl⟩

set_option maxHeartbeats 400000 in
theorem right_as {n i s : Int} {z : Bool} (hz : Hid (rightB n i s = z)) {w : World} :
    Calls Tryd.prog 7 #[.agg #[.int .i64 n, .int .i64 i, .int .i64 s]] w fun e w' => e = .returned (.bool z) ∧ Kept w w' := by
  obtain ⟨z1, h1⟩ : ∃ z1, Hid (decide (0 ≤ n ∧ n ≤ 63) = z1) := ⟨_, rfl⟩
  obtain ⟨z2, h2⟩ : ∃ z2, Hid (decide (0 ≤ i ∧ i ≤ 65535) = z2) := ⟨_, rfl⟩
  obtain ⟨z3, h3⟩ : ∃ z3, Hid (decide (1 ≤ s ∧ s ≤ 16777215) = z3) := ⟨_, rfl⟩
  have hb := Lib.hid (show z = (z1 && (z2 && z3)) by rw [← hz.out, ← h1.out, ← h2.out, ← h3.out]; rfl)
  clear hz
  cases z1 <;> cases z2 <;> cases z3
  all_goals
    go_enter Tryd.func7, Tryd.ntmps7
    go_wp2_with (go_at_call 29; refine (within_as (by assumption)).mono ?_; rintro e w' ⟨rfl, rfl⟩)
    go_ret
    exact ⟨ret_bool hb.out.symm, Kept.one _ _⟩

set_option maxHeartbeats 400000 in
theorem key_as {n i s a : Int} {z : Bool} (hz : Hid (keyB n i s a = z)) {w : World} :
    Calls Tryd.prog 9 #[.agg #[.int .i64 n, .int .i64 i, .int .i64 s, .int .i64 a]] w fun e w' => e = .returned (.bool z) ∧ Kept w w' := by
  obtain ⟨z1, h1⟩ : ∃ z1, Hid (rightB n i s = z1) := ⟨_, rfl⟩
  obtain ⟨z2, h2⟩ : ∃ z2, Hid (decide (0 ≤ a ∧ a ≤ 5) = z2) := ⟨_, rfl⟩
  have hb := Lib.hid (show z = (z1 && z2) by rw [← hz.out, ← h1.out, ← h2.out]; rfl)
  clear hz
  cases z1 <;> cases z2
  all_goals
    go_enter Tryd.func9, Tryd.ntmps9
    go_wp2_with (first
      | (go_at_call 7; refine (right_as (by assumption)).mono ?_; rintro e w1 ⟨rfl, hk⟩
         have hk1 := (Kept.one w _).trans hk
         have hc := hk.cell (p := ⟨w.heap.size, 3, none⟩) (by simp))
      | (go_at_call 29; refine (within_as (by assumption)).mono ?_; rintro e w' ⟨rfl, rfl⟩))
    go_ret
    exact ⟨ret_bool hb.out.symm, hk1⟩

set_option maxHeartbeats 800000 in
theorem rright_as {n i s : Int} {z : Bool} (hz : Hid (rightB n i s = z)) {w : World} :
    Calls Tryd.prog 8 #[.agg #[.int .i64 n, .int .i64 i, .int .i64 s]] w fun e w' => e = .returned (.bool z) ∧ Kept w w' := by
  rcases (by omega : n < 0 ∨ (0 ≤ n ∧ 63 < n) ∨ (0 ≤ n ∧ n ≤ 63 ∧ i < 0) ∨ (0 ≤ n ∧ n ≤ 63 ∧ 0 ≤ i ∧ 65535 < i) ∨ (0 ≤ n ∧ n ≤ 63 ∧ 0 ≤ i ∧ i ≤ 65535 ∧ s < 1) ∨ (0 ≤ n ∧ n ≤ 63 ∧ 0 ≤ i ∧ i ≤ 65535 ∧ 1 ≤ s ∧ 16777215 < s) ∨ (0 ≤ n ∧ n ≤ 63 ∧ 0 ≤ i ∧ i ≤ 65535 ∧ 1 ≤ s ∧ s ≤ 16777215))
    with h | ⟨h1, h⟩ | ⟨h1, h2, h⟩ | ⟨h1, h2, h3, h⟩ | ⟨h1, h2, h3, h4, h⟩ | ⟨h1, h2, h3, h4, h5, h⟩ | ⟨h1, h2, h3, h4, h5, h6⟩
  case inr.inr.inr.inr.inr.inr =>
    have hb := Lib.hid (show z = true by rw [← hz.out]; exact right_iff.2 ⟨⟨h1, h2⟩, ⟨h3, h4⟩, h5, h6⟩)
    go_enter Tryd.func8, Tryd.ntmps8
    go_wp2_with fail
    go_ret
    exact ⟨ret_bool hb.out.symm, Kept.one _ _⟩
  all_goals
    have hb := Lib.hid (show z = false by rw [← hz.out]; exact right_no (by omega))
    go_enter Tryd.func8, Tryd.ntmps8
    go_wp2_with fail
    go_ret
    exact ⟨ret_bool (by first | exact hb.out.symm | (rw [hb.out]; exact decide_eq_false (by omega))), Kept.one _ _⟩

set_option maxHeartbeats 400000 in
theorem rkey_as {n i s a : Int} {z : Bool} (hz : Hid (keyB n i s a = z)) {w : World} :
    Calls Tryd.prog 10 #[.agg #[.int .i64 n, .int .i64 i, .int .i64 s, .int .i64 a]] w fun e w' => e = .returned (.bool z) ∧ Kept w w' := by
  obtain ⟨z1, h1⟩ : ∃ z1, Hid (rightB n i s = z1) := ⟨_, rfl⟩
  rcases (by omega : a < 0 ∨ (0 ≤ a ∧ 5 < a) ∨ (0 ≤ a ∧ a ≤ 5)) with h | ⟨h2, h⟩ | ⟨h2, h⟩
  all_goals
    have hb := Lib.hid (show z = (z1 && decide (0 ≤ a ∧ a ≤ 5)) by rw [← hz.out, ← h1.out]; rfl)
    have hd := Lib.hid (show decide (0 ≤ a ∧ a ≤ 5) = _ by first | exact decide_eq_true (by omega) | exact decide_eq_false (by omega))
    clear hz
    cases z1
    all_goals
      go_enter Tryd.func10, Tryd.ntmps10
      go_wp2_with (go_at_call 8; refine (rright_as (by assumption)).mono ?_; rintro e w1 ⟨rfl, hk⟩
                   have hk1 := (Kept.one w _).trans hk
                   have hc := hk.cell (p := ⟨w.heap.size, 3, none⟩) (by simp))
      go_ret
      exact ⟨ret_bool (by rw [hb.out, hd.out]; first | rfl | exact decide_eq_false (by omega)), hk1⟩

/-! ### the one row -/
theorem ints_as {a b z : Int} (hz : Hid (cmpI a b = z)) {w : World} :
    Calls Tryd.prog 34 #[.int .i64 a, .int .i64 b] w fun e w' => e = .returned (.int .i64 z) ∧ w = w' := by
  rcases cmp_cases a b with ⟨h, h2⟩ | ⟨h, h2⟩ | ⟨h, h2⟩
  · have hb := Lib.hid (h2.symm.trans hz.out); clear h2
    go_enter Tryd.func34, Tryd.ntmps34
    go_wp2_with fail
    go_ret
    exact ⟨ret_int hb.out, rfl⟩
  · have hb := Lib.hid (h2.symm.trans hz.out); clear h2
    have h1 : ¬ a < b := by omega
    have h3 : ¬ b < a := by omega
    clear h
    go_enter Tryd.func34, Tryd.ntmps34
    go_wp2_with fail
    go_ret
    exact ⟨ret_int hb.out, rfl⟩
  · have hb := Lib.hid (h2.symm.trans hz.out); clear h2
    go_enter Tryd.func34, Tryd.ntmps34
    go_wp2_with fail
    go_ret
    exact ⟨ret_int hb.out, rfl⟩
theorem compare_eq (a b : Int) : Lib.compareInt a b = cmpI a b := by
  unfold Lib.compareInt cmpI
  rcases Int.lt_trichotomy a b with h | h | h <;> simp [h] <;> (try omega)
theorem cmp_as {a b z : Int} (hz : Hid (cmpI a b = z)) {w : World} :
    Calls Tryd.prog 33 #[.int .i64 a, .int .i64 b] w fun e w' => e = .returned (.int .i64 z) ∧ w = w' :=
  (Tryd.cmp_Compare_int a b w).mono fun e w' ⟨h1, h2⟩ => ⟨by rw [h1, compare_eq, hz.out], h2.symm⟩

set_option maxHeartbeats 400000 in
theorem or3_any (a b c : Int) (g : Nat) (w : World) (h : w.heap[g]? = some (.cells #[.int .i64 a, .int .i64 b, .int .i64 c] 3 (0, 0))) :
    Calls Tryd.prog 32 #[.slice (some ⟨g, 0, none⟩) 3 3] w fun e w' => e = .returned (.int .i64 (orI a (orI b c))) ∧ w = w' := by
  have c0 : w.cell? ⟨g, 0, none⟩ = some (.int .i64 a) := by rw [blk_cell h]; rfl
  have c1 : w.cell? ⟨g, 1, none⟩ = some (.int .i64 b) := by rw [blk_cell h]; rfl
  have c2 : w.cell? ⟨g, 2, none⟩ = some (.int .i64 c) := by rw [blk_cell h]; rfl
  clear h
  go_enter Tryd.func32, Tryd.ntmps32
  go_wp2_with fail
  go_loop [8] (fun i => ∃ k : Nat, i = .int .i64 (k : Int) ∧ At3 a b c k) (fun i => 3 - (intOf i).toNat)
  case atStart => exact ⟨0, rfl, .inl rfl⟩
  case round =>
    obtain ⟨k, rfl, hk⟩ := hrel
    rcases hk with rfl | ⟨rfl, ha⟩ | ⟨rfl, ha, hb⟩ | ⟨rfl, ha, hb, hc⟩
    · by_cases ha : a = 0
      · have HA := Lib.hid ha
        subst ha
        go_wp2_with fail
        go_round
        case rel => exact ⟨1, rfl, .inr (.inl ⟨rfl, rfl⟩)⟩
        case measure => simp [intOf]
      · have h1 : (a != 0) = true := by simpa using ha
        have HR := Lib.hid (or_ne (orI b c) ha)
        clear ha
        go_wp2_with fail
        go_ret
        exact ⟨ret_int HR.out.symm, rfl⟩
    · subst ha
      by_cases hb : b = 0
      · subst hb
        go_wp2_with fail
        go_round
        case rel => exact ⟨2, rfl, .inr (.inr (.inl ⟨rfl, rfl, rfl⟩))⟩
        case measure => simp [intOf]
      · have h1 : (b != 0) = true := by simpa using hb
        have HR := Lib.hid (or_ne c hb)
        clear hb
        go_wp2_with fail
        go_ret
        exact ⟨ret_int (by rw [or_zero]; exact HR.out.symm), rfl⟩
    · subst ha; subst hb
      by_cases hc : c = 0
      · subst hc
        go_wp2_with fail
        go_round
        case rel => exact ⟨3, rfl, .inr (.inr (.inr ⟨rfl, rfl, rfl, rfl⟩))⟩
        case measure => simp [intOf]
      · have h1 : (c != 0) = true := by simpa using hc
        clear hc
        go_wp2_with fail
        go_ret
        exact ⟨rfl, rfl⟩
    · subst ha; subst hb; subst hc
      go_wp2_with fail
      go_ret
      exact ⟨rfl, rfl⟩

set_option maxHeartbeats 400000 in
theorem or2_any (a b : Int) (g : Nat) (w : World) (h : w.heap[g]? = some (.cells #[.int .i64 a, .int .i64 b] 3 (0, 0))) :
    Calls Tryd.prog 32 #[.slice (some ⟨g, 0, none⟩) 2 2] w fun e w' => e = .returned (.int .i64 (orI a b)) ∧ w = w' := by
  have c0 : w.cell? ⟨g, 0, none⟩ = some (.int .i64 a) := by rw [blk_cell h]; rfl
  have c1 : w.cell? ⟨g, 1, none⟩ = some (.int .i64 b) := by rw [blk_cell h]; rfl
  clear h
  go_enter Tryd.func32, Tryd.ntmps32
  go_wp2_with fail
  go_loop [8] (fun i => ∃ k : Nat, i = .int .i64 (k : Int) ∧ At2 a b k) (fun i => 2 - (intOf i).toNat)
  case atStart => exact ⟨0, rfl, .inl rfl⟩
  case round =>
    obtain ⟨k, rfl, hk⟩ := hrel
    rcases hk with rfl | ⟨rfl, ha⟩ | ⟨rfl, ha, hb⟩
    · by_cases ha : a = 0
      · subst ha
        go_wp2_with fail
        go_round
        case rel => exact ⟨1, rfl, .inr (.inl ⟨rfl, rfl⟩)⟩
        case measure => simp [intOf]
      · have h1 : (a != 0) = true := by simpa using ha
        have HR := Lib.hid (or_ne b ha)
        clear ha
        go_wp2_with fail
        go_ret
        exact ⟨ret_int HR.out.symm, rfl⟩
    · subst ha
      by_cases hb : b = 0
      · subst hb
        go_wp2_with fail
        go_round
        case rel => exact ⟨2, rfl, .inr (.inr ⟨rfl, rfl, rfl⟩)⟩
        case measure => simp [intOf]
      · have h1 : (b != 0) = true := by simpa using hb
        clear hb
        go_wp2_with fail
        go_ret
        exact ⟨rfl, rfl⟩
    · subst ha; subst hb
      go_wp2_with fail
      go_ret
      exact ⟨rfl, rfl⟩

end Go.Proofs.YtjibkkgjkmdjgaaDoor.Id
