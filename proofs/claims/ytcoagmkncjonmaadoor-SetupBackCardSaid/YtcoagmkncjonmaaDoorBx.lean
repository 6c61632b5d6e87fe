/- Arguments in blocks of their own; calls that make memory, in a region that draws its order. -/
import Derived.Test.YtcoagmkncjonmaaDoorSt
import Derived.BigQuiet
import Derived.Lib.QuietBelow
import Derived.Deep.RegionHeld3
import Derived.StillTailTactics
namespace Go.Proofs.YtcoagmkncjonmaaDoor.Id
open Go.RowKit Go.Sort St
set_option linter.unusedVariables false

theorem cell_lt {w : World} {a : Addr} {v : Value} (h : w.cell? a = some v) : a.block < w.heap.size := by
  rcases Nat.lt_or_ge a.block w.heap.size with h' | h'
  · exact h'
  · simp [World.cell?, Array.getElem?_eq_none h'] at h
theorem quiet_at {f : FuncId} {args : Array Value} {v : Value} {w W : World} (hk : Kept w W) (h : ∀ x, Kept w x → Calls Tryd.prog f args x fun e w' => e = .returned v ∧ Kept x w') :
    Hid (∀ (p : Regrown), Calls Tryd.prog f args (grow (redrawn W p.d) p.os) fun e w'' => e = .returned v ∧ ∃ p : Regrown, w'' = grow (redrawn W p.d) p.os) :=
  fun p => Calls.regrown_of (h _ (hk.trans (below_regrown _ p.d p.os)))
/-- an argument in a block of its own -/
theorem boxed1 (w : World) (xs : Array Value) (t : TypeId) : ∃ W, w.alloc (.cells xs t (0, 0)) = W ∧ Kept w W ∧ (∀ o, W.cell? ⟨w.heap.size, o, none⟩ = xs[o]?) :=
  ⟨_, rfl, Kept.one _ _, fun o => blk_cell (blk_new _ _) o⟩
/-- two arguments in blocks of their own, and a draw -/
theorem boxed2 (w : World) (xs ys : Array Value) (t : TypeId) : ∃ W, World.drew ((w.alloc (.cells xs t (0, 0))).alloc (.cells ys t (0, 0))) = W ∧ Kept w W ∧ (∀ o, W.cell? ⟨w.heap.size, o, none⟩ = xs[o]?) ∧ (∀ o, W.cell? ⟨w.heap.size + 1, o, none⟩ = ys[o]?) := by
  have h2 : ((w.alloc (.cells xs t (0, 0))).alloc (.cells ys t (0, 0))).heap[w.heap.size + 1]? = some (.cells ys t (0, 0)) := by
    have := blk_new (w.alloc (.cells xs t (0, 0))) (.cells ys t (0, 0))
    rw [show (w.alloc (.cells xs t (0, 0))).heap.size = w.heap.size + 1 by simp] at this
    exact this
  have h1 : ((w.alloc (.cells xs t (0, 0))).alloc (.cells ys t (0, 0))).heap[w.heap.size]? = some (.cells xs t (0, 0)) := by
    rw [Below.block (Kept.one (w.alloc (.cells xs t (0, 0))) (.cells ys t (0, 0))) w.heap.size (by simp)]
    exact blk_new _ _
  exact ⟨_, rfl, Kept.drew (Kept.more (Kept.one _ _) _), fun o => blk_cell h1 o, fun o => blk_cell h2 o⟩


end Go.Proofs.YtcoagmkncjonmaaDoor.Id
