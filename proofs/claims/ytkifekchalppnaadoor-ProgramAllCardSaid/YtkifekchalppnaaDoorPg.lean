/- Package program: which steps may be, to the program and to the document; steps in memory. -/
import Derived.Test.YtkifekchalppnaaDoorPgM
import Derived.Test.YtkifekchalppnaaDoorCdC
import Derived.Test.YtkifekchalppnaaDoorRv
import Derived.Test.YtkifekchalppnaaDoorArgX
namespace Go.Proofs.YtkifekchalppnaaDoor.Pg
open Go.RowKit Go.Sort St Cd
open Wh (Fr)
set_option linter.unusedVariables false

theorem within_yes {n x y : Int} (h1 : x ≤ n) (h2 : n ≤ y) (w : World) :
    Calls Tryd.prog 23 #[.int .i64 n, .int .i64 x, .int .i64 y] w fun e w' => e = .returned (.bool true) ∧ w = w' := by
  go_enter Tryd.func23, Tryd.ntmps23
  go_wp2_with fail
  go_ret
  exact ⟨rfl, rfl⟩
theorem within_no {n x y : Int} (h : ¬ (x ≤ n ∧ n ≤ y)) (w : World) :
    Calls Tryd.prog 23 #[.int .i64 n, .int .i64 x, .int .i64 y] w fun e w' => e = .returned (.bool false) ∧ w = w' := by
  by_cases h1 : x ≤ n
  · have h2 : ¬ n ≤ y := fun c => h ⟨h1, c⟩
    clear h
    go_enter Tryd.func23, Tryd.ntmps23
    go_wp2_with fail
    go_ret
    exact ⟨rfl, rfl⟩
  · clear h
    go_enter Tryd.func23, Tryd.ntmps23
    go_wp2_with fail
    go_ret
    exact ⟨rfl, rfl⟩
def inB (n x y : Int) : Bool := decide (x ≤ n ∧ n ≤ y)
theorem within_any (n x y : Int) (w : World) :
    Calls Tryd.prog 23 #[.int .i64 n, .int .i64 x, .int .i64 y] w fun e w' => e = .returned (.bool (inB n x y)) ∧ w = w' := by
  unfold inB
  by_cases h : x ≤ n ∧ n ≤ y
  · rw [decide_eq_true h]; exact within_yes h.1 h.2 w
  · rw [decide_eq_false h]; exact within_no h w
theorem within_as {n x y : Int} {v : Bool} (h : Hid (inB n x y = v)) (w : World) :
    Calls Tryd.prog 23 #[.int .i64 n, .int .i64 x, .int .i64 y] w fun e w' => e = .returned (.bool v) ∧ w = w' := by
  have := within_any n x y w; rw [h.out] at this; exact this
theorem right_as' {c : Int} {x : Bool} (h : Hid (right c = x)) (w : World) : Calls Tryd.prog 24 #[.int .i64 c] w fun e w' => e = .returned (.bool x) ∧ w = w' := by
  have := right_any c w; rw [h.out] at this; exact this

/-! ### what a step of each kind comes to -/
theorem op2 (a b n p : Int) : opB ⟨2, a, b⟩ n p = decide (0 ≤ a ∧ a < n ∧ 0 ≤ b ∧ b < p) := rfl
theorem op_n {k a b n p : Int} (h : k ≠ 2) {q : Prop} [Decidable q] (hq : (b = 0 ∧ ((k = 1 ∧ 1 ≤ a ∧ a ≤ 1000) ∨ (k = 3 ∧ a = 0) ∨ (k = 4 ∧ a = 0) ∨ (k = 5 ∧ 0 ≤ a ∧ a ≤ 2147483647) ∨ (k = 6 ∧ 1 ≤ a ∧ a ≤ 16) ∨ (k = 7 ∧ -1 ≤ a ∧ a ≤ 1000000))) ↔ q) : opB ⟨k, a, b⟩ n p = decide q := by
  show opK k a b n p = _
  unfold opK
  rw [if_neg h]
  exact decide_eq_decide.2 hq
theorem op_b {k a b n p : Int} (h : k ≠ 2) (hb : b ≠ 0) : opB ⟨k, a, b⟩ n p = false :=
  (op_n h (q := False) ⟨fun c => hb c.1, fun c => c.elim⟩).trans (decide_eq_false (fun c => c))
theorem op1 (a n p : Int) : opB ⟨1, a, 0⟩ n p = inB a 1 1000 := op_n (by decide) (by omega)
theorem op3 (a n p : Int) : opB ⟨3, a, 0⟩ n p = (a == 0) := (op_n (by decide) (q := a = 0) (by omega)).trans (by cases h : a == 0 <;> simp_all)
theorem op4 (a n p : Int) : opB ⟨4, a, 0⟩ n p = (a == 0) := (op_n (by decide) (q := a = 0) (by omega)).trans (by cases h : a == 0 <;> simp_all)
theorem op5 (a n p : Int) : opB ⟨5, a, 0⟩ n p = inB a 0 2147483647 := op_n (by decide) (by omega)
theorem op6 (a n p : Int) : opB ⟨6, a, 0⟩ n p = inB a 1 16 := op_n (by decide) (by omega)
theorem op7 (a n p : Int) : opB ⟨7, a, 0⟩ n p = inB a (-1) 1000000 := op_n (by decide) (by omega)
theorem op_else {k : Int} (h1 : k ≠ 1) (h2 : k ≠ 2) (h3 : k ≠ 3) (h4 : k ≠ 4) (h5 : k ≠ 5) (h6 : k ≠ 6) (h7 : k ≠ 7) (a n p : Int) : opB ⟨k, a, 0⟩ n p = false :=
  (op_n h2 (q := False) ⟨fun c => by omega, fun c => c.elim⟩).trans (decide_eq_false (fun c => c))

set_option maxHeartbeats 1000000 in
theorem op_2 (a b n p : Int) (w : World) :
    Calls Tryd.prog 9 #[.agg #[.int .i64 2, .int .i64 a, .int .i64 b], .int .i64 n, .int .i64 p] w fun e w' => e = .returned (.bool (opB ⟨2, a, b⟩ n p)) ∧ Kept w w' := by
  obtain ⟨v, hv⟩ : ∃ v, decide (0 ≤ a ∧ a < n ∧ 0 ≤ b ∧ b < p) = v := ⟨_, rfl⟩
  rw [op2, hv]
  by_cases h1 : 0 ≤ a
  · by_cases h2 : a < n
    · by_cases h3 : 0 ≤ b
      · by_cases h4 : b < p
        · obtain rfl : v = true := hv.symm.trans (decide_eq_true ⟨h1, h2, h3, h4⟩)
          clear hv
          go_enter Tryd.func9, Tryd.ntmps9
          go_wp2_with fail
          go_ret
          exact ⟨rfl, Kept.one _ _⟩
        · obtain rfl : v = false := hv.symm.trans (decide_eq_false (fun c => h4 c.2.2.2))
          clear hv
          go_enter Tryd.func9, Tryd.ntmps9
          go_wp2_with fail
          go_ret
          exact ⟨rfl, Kept.one _ _⟩
      · obtain rfl : v = false := hv.symm.trans (decide_eq_false (fun c => h3 c.2.2.1))
        clear hv
        go_enter Tryd.func9, Tryd.ntmps9
        go_wp2_with fail
        go_ret
        exact ⟨rfl, Kept.one _ _⟩
    · obtain rfl : v = false := hv.symm.trans (decide_eq_false (fun c => h2 c.2.1))
      clear hv
      go_enter Tryd.func9, Tryd.ntmps9
      go_wp2_with fail
      go_ret
      exact ⟨rfl, Kept.one _ _⟩
  · obtain rfl : v = false := hv.symm.trans (decide_eq_false (fun c => h1 c.1))
    clear hv
    go_enter Tryd.func9, Tryd.ntmps9
    go_wp2_with fail
    go_ret
    exact ⟨rfl, Kept.one _ _⟩

set_option maxHeartbeats 1000000 in
theorem op_0 (k a n p : Int) (hk : k ≠ 2) (w : World) :
    Calls Tryd.prog 9 #[.agg #[.int .i64 k, .int .i64 a, .int .i64 0], .int .i64 n, .int .i64 p] w fun e w' => e = .returned (.bool (opB ⟨k, a, 0⟩ n p)) ∧ Kept w w' := by
  obtain ⟨v, hv⟩ : ∃ v, opB ⟨k, a, 0⟩ n p = v := ⟨_, rfl⟩
  rw [hv]
  by_cases e1 : k = 1
  · subst e1
    have HW := Lib.hid ((op1 a n p).symm.trans hv)
    clear hv
    go_enter Tryd.func9, Tryd.ntmps9
    go_wp2_with (go_at_call 23; refine (within_as HW _).mono ?_; rintro e w' ⟨rfl, rfl⟩)
    go_ret
    exact ⟨rfl, Kept.one _ _⟩
  by_cases e3 : k = 3
  · subst e3
    have HW := Lib.hid ((op3 a n p).symm.trans hv)
    clear hv
    go_enter Tryd.func9, Tryd.ntmps9
    go_wp2_with fail
    go_ret
    exact ⟨ret_bool HW.out, Kept.one _ _⟩
  by_cases e4 : k = 4
  · subst e4
    have HW := Lib.hid ((op4 a n p).symm.trans hv)
    clear hv
    go_enter Tryd.func9, Tryd.ntmps9
    go_wp2_with fail
    go_ret
    exact ⟨ret_bool HW.out, Kept.one _ _⟩
  by_cases e5 : k = 5
  · subst e5
    have HW := Lib.hid ((op5 a n p).symm.trans hv)
    clear hv
    go_enter Tryd.func9, Tryd.ntmps9
    go_wp2_with (go_at_call 23; refine (within_as HW _).mono ?_; rintro e w' ⟨rfl, rfl⟩)
    go_ret
    exact ⟨rfl, Kept.one _ _⟩
  by_cases e6 : k = 6
  · subst e6
    have HW := Lib.hid ((op6 a n p).symm.trans hv)
    clear hv
    by_cases h0 : a = 0
    · subst h0
      have hr := Lib.hid (show right 0 = true from rfl)
      have hv : v = false := HW.out.symm.trans (by decide)
      subst hv
      go_enter Tryd.func9, Tryd.ntmps9
      go_wp2_with (go_at_call 24; refine (right_as' hr _).mono ?_; rintro e w' ⟨rfl, rfl⟩)
      go_ret
      exact ⟨rfl, Kept.one _ _⟩
    · have h0' : (a != 0) = true := bne_iff_ne.2 h0
      have hr := Lib.hid (show right a = v by
        rw [← HW.out]; unfold right inB
        rw [← Bool.decide_and]; exact decide_eq_decide.2 (by omega))
      clear h0
      go_enter Tryd.func9, Tryd.ntmps9
      cases v
      · go_wp2_with (go_at_call 24; refine (right_as' hr _).mono ?_; rintro e w' ⟨rfl, rfl⟩)
        go_ret
        exact ⟨rfl, Kept.one _ _⟩
      · go_wp2_with (go_at_call 24; refine (right_as' hr _).mono ?_; rintro e w' ⟨rfl, rfl⟩)
        go_ret
        exact ⟨rfl, Kept.one _ _⟩
  by_cases e7 : k = 7
  · subst e7
    have HW := Lib.hid ((op7 a n p).symm.trans hv)
    clear hv
    go_enter Tryd.func9, Tryd.ntmps9
    go_wp2_with (go_at_call 23; refine (within_as HW _).mono ?_; rintro e w' ⟨rfl, rfl⟩)
    go_ret
    exact ⟨rfl, Kept.one _ _⟩
  · have HW := Lib.hid ((op_else e1 hk e3 e4 e5 e6 e7 a n p).symm.trans hv)
    clear hv
    have f1 : (k == 1) = false := beq_eq_false_iff_ne.2 e1
    have f2 : (k == 2) = false := beq_eq_false_iff_ne.2 hk
    have f3 : (k == 3) = false := beq_eq_false_iff_ne.2 e3
    have f4 : (k == 4) = false := beq_eq_false_iff_ne.2 e4
    have f5 : (k == 5) = false := beq_eq_false_iff_ne.2 e5
    have f6 : (k == 6) = false := beq_eq_false_iff_ne.2 e6
    have f7 : (k == 7) = false := beq_eq_false_iff_ne.2 e7
    clear e1 hk e3 e4 e5 e6 e7
    go_enter Tryd.func9, Tryd.ntmps9
    go_wp2_with fail
    go_ret
    exact ⟨ret_bool HW.out, Kept.one _ _⟩

theorem op_any (o : Op) (n p : Int) (w : World) :
    Calls Tryd.prog 9 #[.agg o.arr, .int .i64 n, .int .i64 p] w fun e w' => e = .returned (.bool (opB o n p)) ∧ Kept w w' := by
  obtain ⟨k, a, b⟩ := o
  by_cases hk : k = 2
  · subst hk; exact op_2 a b n p w
  by_cases hb : b = 0
  · subst hb; exact op_0 k a n p hk w
  rw [op_b hk hb]
  have f2 : (k == 2) = false := beq_eq_false_iff_ne.2 hk
  have f0 : (b != 0) = true := bne_iff_ne.2 hb
  clear hk hb
  show Calls Tryd.prog 9 #[.agg #[.int .i64 k, .int .i64 a, .int .i64 b], .int .i64 n, .int .i64 p] w _
  go_enter Tryd.func9, Tryd.ntmps9
  go_wp2_with fail
  go_ret
  exact ⟨rfl, Kept.one _ _⟩

end Go.Proofs.YtkifekchalppnaaDoor.Pg
