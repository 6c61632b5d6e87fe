/- Two packets held against each other. -/
import Derived.Test.YtncdiggejofbbaaGreatDoorPkS
import Derived.Test.YtncdiggejofbbaaGreatDoorSt
import Derived.Test.YtncdiggejofbbaaGreatDoorChecked
import Derived.Laws.StructEq
namespace Go.Proofs.YtncdiggejofbbaaGreatDoor.Pk
open Go.RowKit Go.Sort St IdM PkM
set_option linter.unusedVariables false

theorem eq_on {α : Type} [BEq α] [LawfulBEq α] {a b : α} [Decidable (a = b)] {X : Result Value} {y : Bool} {w : World} (h : X = Result.ok (Value.bool y) w) :
    (if a = b then X else Result.ok (Value.bool false) w) = Result.ok (Value.bool (a == b && y)) w := by
  by_cases e : a = b
  · rw [if_pos e, h, beq_iff_eq.2 e, Bool.true_and]
  · rw [if_neg e, beq_eq_false_iff_ne.2 e, Bool.false_and]
theorem eq_end {α : Type} [BEq α] [LawfulBEq α] {a b : α} [Decidable (a = b)] {w : World} :
    (if a = b then Result.ok (Value.bool true) w else Result.ok (Value.bool false) w) = Result.ok (Value.bool (a == b)) w := by
  by_cases e : a = b
  · rw [if_pos e, beq_iff_eq.2 e]
  · rw [if_neg e, beq_eq_false_iff_ne.2 e]
theorem neq_on {α : Type} [BEq α] [LawfulBEq α] {a b : α} [Decidable (a = b)] {X : Result Value} {y : Bool} {w : World} (h : X = Result.ok (Value.bool (!y)) w) :
    (if a = b then X else Result.ok (Value.bool true) w) = Result.ok (Value.bool (!(a == b && y))) w := by
  by_cases e : a = b
  · rw [if_pos e, h, beq_iff_eq.2 e, Bool.true_and]
  · rw [if_neg e, beq_eq_false_iff_ne.2 e, Bool.false_and]; rfl
theorem neq_end {α : Type} [BEq α] [LawfulBEq α] {a b : α} [Decidable (a = b)] {w : World} :
    (if a = b then Result.ok (Value.bool false) w else Result.ok (Value.bool true) w) = Result.ok (Value.bool (!(a == b))) w := by
  by_cases e : a = b
  · rw [if_pos e, beq_iff_eq.2 e]; rfl
  · rw [if_neg e, beq_eq_false_iff_ne.2 e]; rfl
set_option maxRecDepth 100000 in
theorem eql_run (p q : Pk) (w : World) : (binOp .eql 43 (.agg p.arr) (.agg q.arr)).run Tryz.prog w = .ok (.bool (sameB p q)) w := by
  simp only [Pk.arr]
  simp [go_sem]
  unfold sameB
  repeat (first | exact eq_end | refine eq_on ?_)
set_option maxRecDepth 100000 in
theorem neq_run (p q : Pk) (w : World) : (binOp .neq 43 (.agg p.arr) (.agg q.arr)).run Tryz.prog w = .ok (.bool (!sameB p q)) w := by
  simp only [Pk.arr]
  simp [go_sem]
  unfold sameB
  repeat (first | exact neq_end | refine neq_on ?_)

end Go.Proofs.YtncdiggejofbbaaGreatDoor.Pk
