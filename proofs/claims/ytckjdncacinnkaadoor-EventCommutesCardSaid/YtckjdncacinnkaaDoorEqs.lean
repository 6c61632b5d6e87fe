/- What is held against each other, field by field. No function of the program is spoken of here. -/
import Derived.Test.YtckjdncacinnkaaDoorChecked
import Derived.Laws.StructEq
import Derived.WalkKit
namespace Go.Proofs.YtckjdncacinnkaaDoor.Eqs
open Go.RowKit
set_option linter.unusedVariables false

theorem eq_on {α : Type} [BEq α] [LawfulBEq α] {a b : α} [Decidable (a = b)] {X : Result Value} {y : Bool} {w : World} (h : X = Result.ok (Value.bool y) w) :
    (if a = b then X else Result.ok (Value.bool false) w) = Result.ok (Value.bool (a == b && y)) w := by
  by_cases e : a = b
  · rw [if_pos e, h, beq_iff_eq.2 e, Bool.true_and]
  · rw [if_neg e, beq_eq_false_iff_ne.2 e, Bool.false_and]
theorem eq_end {α : Type} [BEq α] [LawfulBEq α] {a b : α} [Decidable (a = b)] {w : World} :
    (if a = b then Result.ok (Value.bool true) w else Result.ok (Value.bool false) w) = Result.ok (Value.bool (a == b)) w := by
  by_cases e : a = b
  · rw [if_pos e, beq_iff_eq.2 e]
  · rw [if_neg e, beq_eq_false_iff_ne.2 e]
theorem neq_on {α : Type} [BEq α] [LawfulBEq α] {a b : α} [Decidable (a = b)] {X : Result Value} {y : Bool} {w : World} (h : X = Result.ok (Value.bool (!y)) w) :
    (if a = b then X else Result.ok (Value.bool true) w) = Result.ok (Value.bool (!(a == b && y))) w := by
  by_cases e : a = b
  · rw [if_pos e, h, beq_iff_eq.2 e, Bool.true_and]
  · rw [if_neg e, beq_eq_false_iff_ne.2 e, Bool.false_and]; rfl
theorem neq_end {α : Type} [BEq α] [LawfulBEq α] {a b : α} [Decidable (a = b)] {w : World} :
    (if a = b then Result.ok (Value.bool false) w else Result.ok (Value.bool true) w) = Result.ok (Value.bool (!(a == b))) w := by
  by_cases e : a = b
  · rw [if_pos e, beq_iff_eq.2 e]; rfl
  · rw [if_neg e, beq_eq_false_iff_ne.2 e]; rfl

end Go.Proofs.YtckjdncacinnkaaDoor.Eqs
