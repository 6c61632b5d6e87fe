/- The law of steps at arguments. -/
import Derived.Test.YtplkhinjlgmilaaOwK
import Derived.Test.YtplkhinjlgmilaaOwM
namespace Go.Proofs.Ytplkhinjlgmilaa.Ow
open Go.RowKit Go.Deep Go.ChangeShapes Go.WideShapes
set_option linter.unusedVariables false

section
variable {H : Type} {en : TypeId × Value → H} {W : World} {r : Reach} {b0 : Nat} {v v1 : Value} {d d1 : DataW H} {q q1 : List MemPlace}

set_option maxRecDepth 100000 in
theorem steps_all (hv : Value.okWide Try.prog W r b0 28 v) (h : DataW.Trod en Try.prog W 0 (fun _ => true) true 28 v d q)
    (hv1 : Value.okWide Try.prog W r b0 54 v1) (h1 : DataW.Trod en Try.prog W 0 (fun _ => true) true 54 v1 d1 q1) :
    Calls Try.prog 4 #[v, v1] W fun e w' => e = .returned (.bool true) ∧ Below W.heap.size W w' := by
  obtain ⟨o, p, n, c, rfl, K, hK⟩ := open_ow hv h
  obtain ⟨L, hL, -⟩ := open_ops hv1 h1
  exact steps_any o hK hL
end

end Go.Proofs.Ytplkhinjlgmilaa.Ow
