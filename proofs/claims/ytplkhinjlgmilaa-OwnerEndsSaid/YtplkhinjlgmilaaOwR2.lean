/- The law of ends at arguments. -/
import Derived.Test.YtplkhinjlgmilaaOwJ
import Derived.Test.YtplkhinjlgmilaaOwM
namespace Go.Proofs.Ytplkhinjlgmilaa.Ow
open Go.RowKit Go.Deep Go.ChangeShapes Go.WideShapes
set_option linter.unusedVariables false

section
variable {H : Type} {en : TypeId × Value → H} {W : World} {r : Reach} {b0 : Nat} {v : Value} {d : DataW H} {q : List MemPlace}

set_option maxRecDepth 100000 in
theorem lends_all (hv : Value.okWide Try.prog W r b0 54 v) (h : DataW.Trod en Try.prog W 0 (fun _ => true) true 54 v d q) :
    Calls Try.prog 5 #[v] W fun e w' => e = .returned (.bool true) ∧ Below W.heap.size W w' := by
  obtain ⟨L, hL, -⟩ := open_ops hv h
  exact lends_any hL
end

end Go.Proofs.Ytplkhinjlgmilaa.Ow
