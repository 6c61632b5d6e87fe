/- The walks of the laws of layer 18. -/
import Derived.Test.YtofnaemomgokoaaBo
namespace Go.Proofs.Ytofnaemomgokoaa.Bo
open Go.RowKit St Go.Sort
set_option linter.unusedVariables false

set_option maxHeartbeats 1000000 in
theorem awake_any (w : World) : Calls Try.prog 12 #[] w fun e w' => e = .returned (.bool true) ∧ w = w' := by
  have C1 := Lib.hid (show ∀ u, Calls Try.prog 6 #[.int .i64 10, .int .i64 35, .int .i64 3] u fun e w' => e = .returned (.int .i64 35) ∧ u = w' from fun u => by have := step_any 10 35 3 (by omega) u; rw [show step 10 35 3 = 35 by decide +kernel] at this; exact this)
  have C2 := Lib.hid (show ∀ u, Calls Try.prog 8 #[.int .i64 10, .int .i64 35, .int .i64 3, .int .i64 1000] u fun e w' => e = .returned (.int .i64 18) ∧ u = w' from fun u => by have := delay_any 10 35 3 1000 (by omega) u; rw [show late (step 10 35 3) 1000 = 18 by decide +kernel] at this; exact this)
  have C3 := Lib.hid (show ∀ u, Calls Try.prog 6 #[.int .i64 10, .int .i64 35, .int .i64 2] u fun e w' => e = .returned (.int .i64 20) ∧ u = w' from fun u => by have := step_any 10 35 2 (by omega) u; rw [show step 10 35 2 = 20 by decide +kernel] at this; exact this)
  go_enter Try.func12, Try.ntmps12
  go_wp2_with fail
  refine (C1.out _).mono ?_; rintro e w' ⟨rfl, rfl⟩
  go_wp2_with fail
  refine (C2.out _).mono ?_; rintro e w' ⟨rfl, rfl⟩
  go_wp2_with fail
  refine (C3.out _).mono ?_; rintro e w' ⟨rfl, rfl⟩
  go_wp2_with fail
  go_ret
  exact ⟨rfl, rfl⟩

set_option maxHeartbeats 1000000 in
theorem tells_any (b m a j : Int) (ha : a ≤ 9223372036854775807) (w : World) :
    Calls Try.prog 3 #[.int .i64 b, .int .i64 m, .int .i64 a, .int .i64 j] w fun e w' => e = .returned (.bool true) ∧ w = w' := by
  obtain ⟨x, hx⟩ : ∃ x, step b m a = x := ⟨_, rfl⟩
  obtain ⟨d, hd⟩ : ∃ d, late (step b m a) j = d := ⟨_, rfl⟩
  obtain ⟨t, ht⟩ : ∃ t, jit b m a = t := ⟨_, rfl⟩
  have C1 := Lib.hid (show ∀ u, Calls Try.prog 6 #[.int .i64 b, .int .i64 m, .int .i64 a] u fun e w' => e = .returned (.int .i64 x) ∧ u = w' from fun u => by rw [← hx]; exact step_any b m a ha u)
  have C2 := Lib.hid (show ∀ u, Calls Try.prog 7 #[.int .i64 b, .int .i64 m, .int .i64 a] u fun e w' => e = .returned (.int .i64 x) ∧ u = w' from fun u => by rw [← hx]; exact rstep_any b m a u)
  have C3 := Lib.hid (show ∀ u, Calls Try.prog 8 #[.int .i64 b, .int .i64 m, .int .i64 a, .int .i64 j] u fun e w' => e = .returned (.int .i64 d) ∧ u = w' from fun u => by rw [← hd]; exact delay_any b m a j ha u)
  have C4 := Lib.hid (show ∀ u, Calls Try.prog 9 #[.int .i64 b, .int .i64 m, .int .i64 a, .int .i64 j] u fun e w' => e = .returned (.int .i64 d) ∧ u = w' from fun u => by rw [← hd]; exact rdelay_any b m a j u)
  have C5 := Lib.hid (show ∀ u, Calls Try.prog 10 #[.int .i64 b, .int .i64 m, .int .i64 a] u fun e w' => e = .returned (.int .i64 t) ∧ u = w' from fun u => by rw [← ht]; exact jitter_any b m a u)
  have C6 := Lib.hid (show ∀ u, Calls Try.prog 11 #[.int .i64 b, .int .i64 m, .int .i64 a] u fun e w' => e = .returned (.int .i64 t) ∧ u = w' from fun u => by rw [← ht]; exact rjitter_any b m a u)
  clear hx hd ht
  go_enter Try.func3, Try.ntmps3
  go_wp2_with (first
    | (go_at_call 6; refine (C1.out _).mono ?_; rintro e w' ⟨rfl, rfl⟩)
    | (go_at_call 7; refine (C2.out _).mono ?_; rintro e w' ⟨rfl, rfl⟩)
    | (go_at_call 8; refine (C3.out _).mono ?_; rintro e w' ⟨rfl, rfl⟩)
    | (go_at_call 9; refine (C4.out _).mono ?_; rintro e w' ⟨rfl, rfl⟩)
    | (go_at_call 10; refine (C5.out _).mono ?_; rintro e w' ⟨rfl, rfl⟩)
    | (go_at_call 11; refine (C6.out _).mono ?_; rintro e w' ⟨rfl, rfl⟩)
    | (go_at_call 12; refine (awake_any _).mono ?_; rintro e w' ⟨rfl, rfl⟩))
  all_goals go_ret
  all_goals exact ⟨rfl, rfl⟩

set_option maxHeartbeats 1000000 in
theorem bounds_any (b m a j : Int) (ha : a ≤ 9223372036854775807) (w : World) :
    Calls Try.prog 4 #[.int .i64 b, .int .i64 m, .int .i64 a, .int .i64 j] w fun e w' => e = .returned (.bool true) ∧ w = w' := by
  obtain ⟨x, hx⟩ : ∃ x, step b m a = x := ⟨_, rfl⟩
  have hx0 : 0 ≤ x := by rw [← hx]; exact step_lo b m a
  have hx1 : x ≤ 1125899906842624 := by rw [← hx]; exact step_hi b m a
  obtain ⟨d, hd⟩ : ∃ d, late x j = d := ⟨_, rfl⟩
  have hd0 : x - x / 2 ≤ d := by rw [← hd]; exact late_lo j hx0
  have hd1 : d ≤ x := by rw [← hd]; exact late_hi j hx0
  obtain ⟨t, ht⟩ : ∃ t, jit b m a = t := ⟨_, rfl⟩
  have ht0 : 0 ≤ t := by rw [← ht]; exact jit_lo b m a
  have ht1 : t ≤ 1000 := by rw [← ht]; exact jit_hi b m a
  have C1 := Lib.hid (show ∀ u, Calls Try.prog 6 #[.int .i64 b, .int .i64 m, .int .i64 a] u fun e w' => e = .returned (.int .i64 x) ∧ u = w' from fun u => by rw [← hx]; exact step_any b m a ha u)
  have C2 := Lib.hid (show ∀ u, Calls Try.prog 8 #[.int .i64 b, .int .i64 m, .int .i64 a, .int .i64 j] u fun e w' => e = .returned (.int .i64 d) ∧ u = w' from fun u => by rw [← hd, ← hx]; exact delay_any b m a j ha u)
  have C3 := Lib.hid (show ∀ u, Calls Try.prog 10 #[.int .i64 b, .int .i64 m, .int .i64 a] u fun e w' => e = .returned (.int .i64 t) ∧ u = w' from fun u => by rw [← ht]; exact jitter_any b m a u)
  have C4 := Lib.hid (show ∀ u, Calls Try.prog 8 #[.int .i64 b, .int .i64 m, .int .i64 a, .int .i64 0] u fun e w' => e = .returned (.int .i64 x) ∧ u = w' from fun u => by have := delay_any b m a 0 ha u; rw [late_none, hx] at this; exact this)
  have C5 := Lib.hid (show ∀ u, Calls Try.prog 8 #[.int .i64 b, .int .i64 m, .int .i64 a, .int .i64 1000] u fun e w' => e = .returned (.int .i64 (x - x / 2)) ∧ u = w' from fun u => by have := delay_any b m a 1000 ha u; rw [late_all, hx] at this; exact this)
  clear hx hd ht
  go_enter Try.func4, Try.ntmps4
  go_wp2_with fail
  refine (C1.out _).mono ?_; rintro e w' ⟨rfl, rfl⟩
  go_wp2_with fail
  refine (C2.out _).mono ?_; rintro e w' ⟨rfl, rfl⟩
  go_wp2_with fail
  refine (C3.out _).mono ?_; rintro e w' ⟨rfl, rfl⟩
  go_wp2_with fail
  refine (C4.out _).mono ?_; rintro e w' ⟨rfl, rfl⟩
  go_wp2_with fail
  refine (C5.out _).mono ?_; rintro e w' ⟨rfl, rfl⟩
  go_wp2_with (go_at_call 12; refine (awake_any _).mono ?_; rintro e w' ⟨rfl, rfl⟩)
  go_ret
  exact ⟨rfl, rfl⟩

set_option maxHeartbeats 1000000 in
theorem rises_in (b m a c j k : Int) (ha : a ≤ 9223372036854775807) (hc : c ≤ 9223372036854775807) (A C J K : Int) (hA : A = min a c) (hC : C = max a c) (hJ : J = min j k) (hK : K = max j k) (w : World) :
    Calls Try.prog 5 #[.int .i64 b, .int .i64 m, .int .i64 a, .int .i64 c, .int .i64 j, .int .i64 k] w fun e w' => e = .returned (.bool true) ∧ w = w' := by
  obtain ⟨x, hx⟩ : ∃ x, step b m A = x := ⟨_, rfl⟩
  obtain ⟨y, hy⟩ : ∃ y, step b m C = y := ⟨_, rfl⟩
  have hxy : x ≤ y := by rw [← hx, ← hy]; exact step_mono b m (by omega)
  have hx0 : 0 ≤ x := by rw [← hx]; exact step_lo b m A
  obtain ⟨d, hd⟩ : ∃ d, late x J = d := ⟨_, rfl⟩
  obtain ⟨f, hf⟩ : ∃ f, late x K = f := ⟨_, rfl⟩
  have hdf : f ≤ d := by rw [← hd, ← hf]; exact late_mono hx0 (by omega)
  have C1 := Lib.hid (show ∀ u, Calls Try.prog 6 #[.int .i64 b, .int .i64 m, .int .i64 A] u fun e w' => e = .returned (.int .i64 x) ∧ u = w' from fun u => by rw [← hx]; exact step_any b m A (by omega) u)
  have C2 := Lib.hid (show ∀ u, Calls Try.prog 6 #[.int .i64 b, .int .i64 m, .int .i64 C] u fun e w' => e = .returned (.int .i64 y) ∧ u = w' from fun u => by rw [← hy]; exact step_any b m C (by omega) u)
  have C3 := Lib.hid (show ∀ u, Calls Try.prog 8 #[.int .i64 b, .int .i64 m, .int .i64 A, .int .i64 J] u fun e w' => e = .returned (.int .i64 d) ∧ u = w' from fun u => by rw [← hd, ← hx]; exact delay_any b m A J (by omega) u)
  have C4 := Lib.hid (show ∀ u, Calls Try.prog 8 #[.int .i64 b, .int .i64 m, .int .i64 A, .int .i64 K] u fun e w' => e = .returned (.int .i64 f) ∧ u = w' from fun u => by rw [← hf, ← hx]; exact delay_any b m A K (by omega) u)
  clear hx hy hd hf hx0
  rcases Int.lt_or_le c a with h1 | h1 <;> rcases Int.lt_or_le k j with h2 | h2
  · obtain ⟨rfl, rfl, rfl, rfl⟩ : A = c ∧ C = a ∧ J = k ∧ K = j := by omega
    clear hA hC hJ hK
    go_enter Try.func5, Try.ntmps5
    go_wp2_with fail
    refine (C1.out _).mono ?_; rintro e w' ⟨rfl, rfl⟩
    go_wp2_with fail
    refine (C2.out _).mono ?_; rintro e w' ⟨rfl, rfl⟩
    go_wp2_with fail
    refine (C3.out _).mono ?_; rintro e w' ⟨rfl, rfl⟩
    go_wp2_with fail
    refine (C4.out _).mono ?_; rintro e w' ⟨rfl, rfl⟩
    go_wp2_with (go_at_call 12; refine (awake_any _).mono ?_; rintro e w' ⟨rfl, rfl⟩)
    go_ret
    exact ⟨rfl, rfl⟩
  · obtain ⟨rfl, rfl, rfl, rfl⟩ : A = c ∧ C = a ∧ J = j ∧ K = k := by omega
    clear hA hC hJ hK
    go_enter Try.func5, Try.ntmps5
    go_wp2_with fail
    refine (C1.out _).mono ?_; rintro e w' ⟨rfl, rfl⟩
    go_wp2_with fail
    refine (C2.out _).mono ?_; rintro e w' ⟨rfl, rfl⟩
    go_wp2_with fail
    refine (C3.out _).mono ?_; rintro e w' ⟨rfl, rfl⟩
    go_wp2_with fail
    refine (C4.out _).mono ?_; rintro e w' ⟨rfl, rfl⟩
    go_wp2_with (go_at_call 12; refine (awake_any _).mono ?_; rintro e w' ⟨rfl, rfl⟩)
    go_ret
    exact ⟨rfl, rfl⟩
  · obtain ⟨rfl, rfl, rfl, rfl⟩ : A = a ∧ C = c ∧ J = k ∧ K = j := by omega
    clear hA hC hJ hK
    go_enter Try.func5, Try.ntmps5
    go_wp2_with fail
    refine (C1.out _).mono ?_; rintro e w' ⟨rfl, rfl⟩
    go_wp2_with fail
    refine (C2.out _).mono ?_; rintro e w' ⟨rfl, rfl⟩
    go_wp2_with fail
    refine (C3.out _).mono ?_; rintro e w' ⟨rfl, rfl⟩
    go_wp2_with fail
    refine (C4.out _).mono ?_; rintro e w' ⟨rfl, rfl⟩
    go_wp2_with (go_at_call 12; refine (awake_any _).mono ?_; rintro e w' ⟨rfl, rfl⟩)
    go_ret
    exact ⟨rfl, rfl⟩
  · obtain ⟨rfl, rfl, rfl, rfl⟩ : A = a ∧ C = c ∧ J = j ∧ K = k := by omega
    clear hA hC hJ hK
    go_enter Try.func5, Try.ntmps5
    go_wp2_with fail
    refine (C1.out _).mono ?_; rintro e w' ⟨rfl, rfl⟩
    go_wp2_with fail
    refine (C2.out _).mono ?_; rintro e w' ⟨rfl, rfl⟩
    go_wp2_with fail
    refine (C3.out _).mono ?_; rintro e w' ⟨rfl, rfl⟩
    go_wp2_with fail
    refine (C4.out _).mono ?_; rintro e w' ⟨rfl, rfl⟩
    go_wp2_with (go_at_call 12; refine (awake_any _).mono ?_; rintro e w' ⟨rfl, rfl⟩)
    go_ret
    exact ⟨rfl, rfl⟩

theorem rises_any (b m a c j k : Int) (ha : a ≤ 9223372036854775807) (hc : c ≤ 9223372036854775807) (w : World) :
    Calls Try.prog 5 #[.int .i64 b, .int .i64 m, .int .i64 a, .int .i64 c, .int .i64 j, .int .i64 k] w fun e w' => e = .returned (.bool true) ∧ w = w' :=
  rises_in b m a c j k ha hc _ _ _ _ rfl rfl rfl rfl w

theorem kept_of {w w' : World} {P : Prop} (h : P ∧ w = w') : P ∧ Kept w w' := ⟨h.1, h.2 ▸ Kept.refl w⟩
theorem hi_of {a : Int} (h : (Lit.int .i64 a).wf = true) : a ≤ 9223372036854775807 := by
  have hh : IntKind.i64.min ≤ a ∧ a ≤ IntKind.i64.max := by simpa [Lit.wf] using h
  rw [show IntKind.i64.max = 9223372036854775807 from rfl] at hh
  exact hh.2
theorem tells_k (b m a j : Int) (ha : (Lit.int .i64 a).wf = true) (w : World) : Calls Try.prog 3 #[.int .i64 b, .int .i64 m, .int .i64 a, .int .i64 j] w fun e w' => e = .returned (.bool true) ∧ Kept w w' :=
  (tells_any b m a j (hi_of ha) w).mono fun _ _ h => kept_of h
theorem bounds_k (b m a j : Int) (ha : (Lit.int .i64 a).wf = true) (w : World) : Calls Try.prog 4 #[.int .i64 b, .int .i64 m, .int .i64 a, .int .i64 j] w fun e w' => e = .returned (.bool true) ∧ Kept w w' :=
  (bounds_any b m a j (hi_of ha) w).mono fun _ _ h => kept_of h
theorem rises_k (b m a c j k : Int) (ha : (Lit.int .i64 a).wf = true) (hc : (Lit.int .i64 c).wf = true) (w : World) : Calls Try.prog 5 #[.int .i64 b, .int .i64 m, .int .i64 a, .int .i64 c, .int .i64 j, .int .i64 k] w fun e w' => e = .returned (.bool true) ∧ Kept w w' :=
  (rises_any b m a c j k (hi_of ha) (hi_of hc) w).mono fun _ _ h => kept_of h

end Go.Proofs.Ytofnaemomgokoaa.Bo
