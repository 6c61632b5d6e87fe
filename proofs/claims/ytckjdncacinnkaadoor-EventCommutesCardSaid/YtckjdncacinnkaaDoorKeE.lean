/- Two keys of attempts held against each other. -/
import Derived.Test.YtckjdncacinnkaaDoorChecked
import Derived.Test.YtckjdncacinnkaaDoorSeM
import Derived.Laws.StructEq
import Derived.WalkKit
namespace Go.Proofs.YtckjdncacinnkaaDoor.Se
open Go.RowKit IdM
set_option linter.unusedVariables false

theorem eq_on {α : Type} [BEq α] [LawfulBEq α] {a b : α} [Decidable (a = b)] {X : Result Value} {y : Bool} {w : World} (h : X = Result.ok (Value.bool y) w) :
    (if a = b then X else Result.ok (Value.bool false) w) = Result.ok (Value.bool (a == b && y)) w := by
  by_cases e : a = b
  · rw [if_pos e, h, beq_iff_eq.2 e, Bool.true_and]
  · rw [if_neg e, beq_eq_false_iff_ne.2 e, Bool.false_and]
theorem eq_end {α : Type} [BEq α] [LawfulBEq α] {a b : α} [Decidable (a = b)] {w : World} :
    (if a = b then Result.ok (Value.bool true) w else Result.ok (Value.bool false) w) = Result.ok (Value.bool (a == b)) w := by
  by_cases e : a = b
  · rw [if_pos e, beq_iff_eq.2 e]
  · rw [if_neg e, beq_eq_false_iff_ne.2 e]
theorem neq_on {α : Type} [BEq α] [LawfulBEq α] {a b : α} [Decidable (a = b)] {X : Result Value} {y : Bool} {w : World} (h : X = Result.ok (Value.bool (!y)) w) :
    (if a = b then X else Result.ok (Value.bool true) w) = Result.ok (Value.bool (!(a == b && y))) w := by
  by_cases e : a = b
  · rw [if_pos e, h, beq_iff_eq.2 e, Bool.true_and]
  · rw [if_neg e, beq_eq_false_iff_ne.2 e, Bool.false_and]; rfl
theorem neq_end {α : Type} [BEq α] [LawfulBEq α] {a b : α} [Decidable (a = b)] {w : World} :
    (if a = b then Result.ok (Value.bool false) w else Result.ok (Value.bool true) w) = Result.ok (Value.bool (!(a == b))) w := by
  by_cases e : a = b
  · rw [if_pos e, beq_iff_eq.2 e]; rfl
  · rw [if_neg e, beq_eq_false_iff_ne.2 e]; rfl
/-- the same key? -/
def sameK (n i s a n' i' s' a' : Int) : Bool := n == n' && (i == i' && (s == s' && a == a'))
theorem same_k (n i s a n' i' s' a' : Int) : sameK n i s a n' i' s' a' = decide ((⟨n, i, s, a⟩ : Ke) = ⟨n', i', s', a'⟩) := by
  unfold sameK
  rw [Bool.eq_iff_iff]
  simp only [Bool.and_eq_true, beq_iff_eq, decide_eq_true_eq, Ke.mk.injEq]
theorem eq_key (n i s a n' i' s' a' : Int) (w : World) : (binOp .eql 26 (.agg #[.int .i64 n, .int .i64 i, .int .i64 s, .int .i64 a]) (.agg #[.int .i64 n', .int .i64 i', .int .i64 s', .int .i64 a'])).run Tryd.prog w = .ok (.bool (decide ((⟨n, i, s, a⟩ : Ke) = ⟨n', i', s', a'⟩))) w := by
  rw [← same_k]
  simp [go_sem]
  unfold sameK
  repeat (first | exact eq_end | refine eq_on ?_)
theorem neq_key (n i s a n' i' s' a' : Int) (w : World) : (binOp .neq 26 (.agg #[.int .i64 n, .int .i64 i, .int .i64 s, .int .i64 a]) (.agg #[.int .i64 n', .int .i64 i', .int .i64 s', .int .i64 a'])).run Tryd.prog w = .ok (.bool (!decide ((⟨n, i, s, a⟩ : Ke) = ⟨n', i', s', a'⟩))) w := by
  rw [← same_k]
  simp [go_sem]
  unfold sameK
  repeat (first | exact neq_end | refine neq_on ?_)

end Go.Proofs.YtckjdncacinnkaaDoor.Se
