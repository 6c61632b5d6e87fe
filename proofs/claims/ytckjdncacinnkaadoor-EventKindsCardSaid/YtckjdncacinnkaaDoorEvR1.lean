/- The laws of events at arguments (1). -/
import Derived.Test.YtckjdncacinnkaaDoorEvK
import Derived.Test.YtckjdncacinnkaaDoorEvA
namespace Go.Proofs.YtckjdncacinnkaaDoor.Ev
open Go.RowKit Go.Deep Go.ChangeShapes Go.WideShapes IdM Se EvM It
set_option linter.unusedVariables false

section
variable {H : Type} {en : TypeId × Value → H} {W : World} {r : Reach} {b0 : Nat} {v v2 kv_ : Value} {d d2 dk : DataW H} {q q2 qk : List MemPlace}

theorem kinds_all (hv0 : Value.okWide Tryd.prog W r b0 22 v) (h0 : DataW.Trod en Tryd.prog W 0 (fun _ => true) true 22 v d q) (hT : Tab W) : Calls Tryd.prog 4 #[v] W fun e w' => e = .returned (.bool true) ∧ Below W.heap.size W w' := by
  obtain ⟨L, h1, _⟩ := open_evs hv0 h0
  exact kinds_law h1 hT

end

end Go.Proofs.YtckjdncacinnkaaDoor.Ev
