/- Small things that the laws of stage 26 share. -/
import Derived.Test.YtncdiggejofbbaaGreatDoorOw5
import Derived.Test.YtncdiggejofbbaaGreatDoorAu
import Derived.Test.YtncdiggejofbbaaGreatDoorBlk
namespace Go.Proofs.YtncdiggejofbbaaGreatDoor.Sn
open Go.RowKit Go.Sort Go.Shelf St Blk
open Go.Proofs.YtncdiggejofbbaaGreatDoor.Cl
open Go.Proofs.YtncdiggejofbbaaGreatDoor.Ow
open Go.Proofs.YtncdiggejofbbaaGreatDoor.Au (Stab stab_and)
set_option linter.unusedVariables false

theorem mcs {v : Value} {K : List Cl} : Stab (fun u => Mc u v K) := fun u u' h k => h.keep k
theorem far_rw {u : World} {g i : Nat} {xs : Array Value} {o : Obj} (h : u.heap[i]? = some o) (hn : i ≠ g) : (u.setRow g xs).heap[i]? = some o := by rw [setRow_other _ _ _ _ hn]; exact h

end Go.Proofs.YtncdiggejofbbaaGreatDoor.Sn
