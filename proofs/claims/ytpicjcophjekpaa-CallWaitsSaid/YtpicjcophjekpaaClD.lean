/- Deeds on a call: what they come to; the facts within one. -/
import Derived.Test.YtpicjcophjekpaaCl2
import Derived.Test.YtpicjcophjekpaaHg
namespace Go.Proofs.Ytpicjcophjekpaa.Cl
open Go.RowKit Go.Sort St Ad Po Blk
set_option linter.unusedVariables false

/-- a deed -/
structure De where
  (k n : Int) (f : Ft)
def De.arr (d : De) : Array Value :=
  #[.int .i64 d.k, .int .i64 d.n, .int .i64 d.f.code, .int .i64 d.f.att, .bool d.f.com, .int .i64 d.f.push, .int .i64 d.f.have_, .int .i64 d.f.now, .int .i64 d.f.due, .int .i64 d.f.jit]
def stp (c : Cl) (g : Cf) (d : De) : Cl × Int :=
  if d.k = 0 ∨ d.k = 1 ∨ d.k = 2 then (begin c d.n, 0) else if d.k = 3 then (good c d.n, 0) else if d.k = 4 then (taken c, 0)
  else if d.k = 5 ∨ d.k = 6 ∨ d.k = 7 then bad c g d.f else if d.k = 8 then (ends c d.n, 0) else (c, 0)
section
variable {c : Cl} {g : Cf} {d : De}
theorem stp_0 (h : d.k = 0 ∨ d.k = 1 ∨ d.k = 2) : stp c g d = (begin c d.n, 0) := by unfold stp; rw [if_pos h]
theorem stp_3 (h : d.k = 3) : stp c g d = (good c d.n, 0) := by unfold stp; rw [if_neg (by omega), if_pos h]
theorem stp_4 (h : d.k = 4) : stp c g d = (taken c, 0) := by unfold stp; rw [if_neg (by omega), if_neg (by omega), if_pos h]
theorem stp_5 (h : d.k = 5 ∨ d.k = 6 ∨ d.k = 7) : stp c g d = bad c g d.f := by unfold stp; rw [if_neg (by omega), if_neg (by omega), if_neg (by omega), if_pos h]
theorem stp_8 (h : d.k = 8) : stp c g d = (ends c d.n, 0) := by unfold stp; rw [if_neg (by omega), if_neg (by omega), if_neg (by omega), if_neg (by omega), if_pos h]
theorem stp_no (h : ¬ d.k = 0 ∧ ¬ d.k = 1 ∧ ¬ d.k = 2 ∧ ¬ d.k = 3 ∧ ¬ d.k = 4 ∧ ¬ d.k = 5 ∧ ¬ d.k = 6 ∧ ¬ d.k = 7 ∧ ¬ d.k = 8) : stp c g d = (c, 0) := by unfold stp; rw [if_neg (by omega), if_neg (by omega), if_neg (by omega), if_neg (by omega), if_neg (by omega)]
end
theorem info_de : (Try.prog.info? 37).map (·.size) = some 10 := by kernel_rfl

/-- the facts within a deed are loaded -/
theorem load_facts {w : World} {b o : Nat} {f : Ft} (h : w.rangeAt b o [.int .i64 f.code, .int .i64 f.att, .bool f.com, .int .i64 f.push, .int .i64 f.have_, .int .i64 f.now, .int .i64 f.due, .int .i64 f.jit]) :
    (loadVar 35 ⟨b, o, none⟩).run Try.prog w = .ok (.agg f.arr) w :=
  run_loadVar_mid w b o _ _ _ h Try.underlying35 rfl info_rft
theorem facts_at {w W : World} {L : List (Array Value × TypeId)} {d : De} {t : TypeId} (h : Bl w W L) (i : Nat) (e : L[i]? = some (d.arr, t)) :
    W.rangeAt (w.heap.size + i) 2 [.int .i64 d.f.code, .int .i64 d.f.att, .bool d.f.com, .int .i64 d.f.push, .int .i64 d.f.have_, .int .i64 d.f.now, .int .i64 d.f.due, .int .i64 d.f.jit] := fun j v hj => by
  rw [h.cell i (2 + j) e, ← hj]
  match j with
  | 0 | 1 | 2 | 3 | 4 | 5 | 6 | 7 => rfl
  | j + 8 => simp only [De.arr, List.getElem?_toArray]; rw [List.getElem?_eq_none (by simp; omega), List.getElem?_eq_none (by simp)]

end Go.Proofs.Ytpicjcophjekpaa.Cl
