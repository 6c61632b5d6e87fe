/- Package setup: its settings, their words, and places. -/
import Derived.Test.YtcoagmkncjonmaaDoorSuM
import Derived.Test.YtcoagmkncjonmaaDoorBlk
import Derived.Test.YtcoagmkncjonmaaDoorAu
import Derived.StillTailTactics
import Derived.BigRegion
import Derived.LoopTactic
namespace Go.Proofs.YtcoagmkncjonmaaDoor.Su
open Go.RowKit Go.Sort St Blk
open Ad (Cf info_cf load_l load_w)
set_option linter.unusedVariables false
set_option linter.unusedSimpArgs false

/-- a setting, of a configuration that lies in block b -/
def setR (b k : Nat) : List Value := [.string (wordB k), .pointer (some ⟨b, k, none⟩)]
def setA (b : Nat) : Array Value := ((List.range 13).flatMap (setR b)).toArray
theorem set_at (b : Nat) {k : Nat} (h : k < 13) : (setA b)[k * 2]? = some (.string (wordB k)) ∧ (setA b)[k * 2 + 1]? = some (.pointer (some ⟨b, k, none⟩)) := by
  rcases k_cases h with rfl | rfl | rfl | rfl | rfl | rfl | rfl | rfl | rfl | rfl | rfl | rfl | rfl <;> exact ⟨rfl, rfl⟩

set_option maxRecDepth 100000 in
set_option maxHeartbeats 2000000 in
theorem settings_any (b : Nat) (w : World) : Calls Tryd.prog 19 #[.pointer (some ⟨b, 0, none⟩)] w fun e w' => ∃ g, e = .returned (.slice (some ⟨g, 0, none⟩) 13 13) ∧ w.heap.size ≤ g ∧ w'.heap[g]? = some (.cells (setA b) 58 (0, 0)) ∧ Kept w w' := by
  go_enter Tryd.func19, Tryd.ntmps19
  go_wp2_with fail
  go_still_tail 52, (by kernel_rfl)
  go_wp2_with fail
  go_ret
  exact ⟨w.heap.size, rfl, Nat.le_refl _, blk_new _ _, ((Kept.refl w).more _).drew⟩



theorem first_any (w : World) : Calls Tryd.prog 15 #[] w fun e w' => e = .returned (.agg (mk firstL none 0 0).arr) ∧ Kept w w' := by
  go_enter Tryd.func15, Tryd.ntmps15
  go_wp2_with fail
  refine bodyPost_ret (results_cell_row rfl _ _ w.heap.size 24 (mk firstL none 0 0).arr (0, 0) _ rfl (blk_new w _) Tryd.underlying24 rfl info_cf) rfl ?_
  exact ⟨rfl, Kept.one _ _⟩

end Go.Proofs.YtcoagmkncjonmaaDoor.Su
