/- The law TableNone at arguments. -/
import Derived.Test.YtiaafjabhnomeaaTbO
import Derived.Test.YtiaafjabhnomeaaOwM
namespace Go.Proofs.Ytiaafjabhnomeaa.Tb
open Go.RowKit Go.Deep Go.ChangeShapes Go.WideShapes
set_option linter.unusedVariables false

section
variable {H : Type} {en : TypeId × Value → H} {W : World} {r : Reach} {b0 : Nat} {v : Value} {d : DataW H} {q : List MemPlace}

set_option maxRecDepth 100000 in
theorem none_all (hv : Value.okWide Try.prog W r b0 35 v) (h : DataW.Trod en Try.prog W 0 (fun _ => true) true 35 v d q) :
    Calls Try.prog 5 #[v] W fun e w' => e = .returned (.bool true) ∧ Below W.heap.size W w' := by
  obtain ⟨o, p, n, c, rfl, K, hK⟩ := Ow.open_ow hv h
  exact none_any o hK
end

end Go.Proofs.Ytiaafjabhnomeaa.Tb
