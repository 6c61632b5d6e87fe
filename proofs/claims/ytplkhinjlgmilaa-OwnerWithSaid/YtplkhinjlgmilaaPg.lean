/- Package program: which steps may be, to the program and to the document; steps in memory. -/
import Derived.Test.YtplkhinjlgmilaaPgM
import Derived.Test.YtplkhinjlgmilaaCdC
import Derived.Test.YtplkhinjlgmilaaRv
import Derived.Test.YtplkhinjlgmilaaArgX
namespace Go.Proofs.Ytplkhinjlgmilaa.Pg
open Go.RowKit Go.Sort St Cd
open Wh (Fr)
set_option linter.unusedVariables false

def inB (n x y : Int) : Bool := decide (x ≤ n ∧ n ≤ y)





theorem right_as' {c : Int} {x : Bool} (h : Hid (right c = x)) (w : World) : Calls Try.prog 56 #[.int .i64 c] w fun e w' => e = .returned (.bool x) ∧ w = w' := by
  have := right_any c w; rw [h.out] at this; exact this

/-! ### what a step of each kind comes to -/
theorem op2 (a b n p : Int) : opB ⟨2, a, b⟩ n p = decide (0 ≤ a ∧ a < n ∧ 0 ≤ b ∧ b < p) := rfl
theorem op_n {k a b n p : Int} (h : k ≠ 2) {q : Prop} [Decidable q] (hq : (b = 0 ∧ ((k = 1 ∧ 1 ≤ a ∧ a ≤ 1000) ∨ (k = 3 ∧ a = 0) ∨ (k = 4 ∧ a = 0) ∨ (k = 5 ∧ 0 ≤ a ∧ a ≤ 2147483647) ∨ (k = 6 ∧ 1 ≤ a ∧ a ≤ 16) ∨ (k = 7 ∧ -1 ≤ a ∧ a ≤ 1000000))) ↔ q) : opB ⟨k, a, b⟩ n p = decide q := by
  show opK k a b n p = _
  unfold opK
  rw [if_neg h]
  exact decide_eq_decide.2 hq
theorem op_b {k a b n p : Int} (h : k ≠ 2) (hb : b ≠ 0) : opB ⟨k, a, b⟩ n p = false :=
  (op_n h (q := False) ⟨fun c => hb c.1, fun c => c.elim⟩).trans (decide_eq_false (fun c => c))
theorem op1 (a n p : Int) : opB ⟨1, a, 0⟩ n p = inB a 1 1000 := op_n (by decide) (by omega)
theorem op3 (a n p : Int) : opB ⟨3, a, 0⟩ n p = (a == 0) := (op_n (by decide) (q := a = 0) (by omega)).trans (by cases h : a == 0 <;> simp_all)
theorem op4 (a n p : Int) : opB ⟨4, a, 0⟩ n p = (a == 0) := (op_n (by decide) (q := a = 0) (by omega)).trans (by cases h : a == 0 <;> simp_all)
theorem op5 (a n p : Int) : opB ⟨5, a, 0⟩ n p = inB a 0 2147483647 := op_n (by decide) (by omega)
theorem op6 (a n p : Int) : opB ⟨6, a, 0⟩ n p = inB a 1 16 := op_n (by decide) (by omega)
theorem op7 (a n p : Int) : opB ⟨7, a, 0⟩ n p = inB a (-1) 1000000 := op_n (by decide) (by omega)
theorem op_else {k : Int} (h1 : k ≠ 1) (h2 : k ≠ 2) (h3 : k ≠ 3) (h4 : k ≠ 4) (h5 : k ≠ 5) (h6 : k ≠ 6) (h7 : k ≠ 7) (a n p : Int) : opB ⟨k, a, 0⟩ n p = false :=
  (op_n h2 (q := False) ⟨fun c => by omega, fun c => c.elim⟩).trans (decide_eq_false (fun c => c))




end Go.Proofs.Ytplkhinjlgmilaa.Pg
