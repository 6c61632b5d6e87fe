/- The law of calls that are put at arguments. -/
import Derived.Test.YtplkhinjlgmilaaOwO
import Derived.Test.YtplkhinjlgmilaaOwM
namespace Go.Proofs.Ytplkhinjlgmilaa.Ow
open Go.RowKit Go.Deep Go.ChangeShapes Go.WideShapes
set_option linter.unusedVariables false

section
variable {H : Type} {en : TypeId × Value → H} {W : World} {r : Reach} {b0 : Nat} {v v1 v2 v3 : Value} {d d1 d2 d3 : DataW H} {q q1 q2 q3 : List MemPlace}

set_option maxRecDepth 100000 in
theorem with_all (hv : Value.okWide Try.prog W r b0 28 v) (h : DataW.Trod en Try.prog W 0 (fun _ => true) true 28 v d q)
    (hv1 : Value.okWide Try.prog W r b0 30 v1) (h1 : DataW.Trod en Try.prog W 0 (fun _ => true) true 30 v1 d1 q1)
    (hv2 : Value.okWide Try.prog W r b0 30 v2) (h2 : DataW.Trod en Try.prog W 0 (fun _ => true) true 30 v2 d2 q2)
    (hv3 : Value.okWide Try.prog W r b0 23 v3) (h3 : DataW.Trod en Try.prog W 0 (fun _ => true) true 23 v3 d3 q3) :
    Calls Try.prog 7 #[v, v1, v2, v3] W fun e w' => e = .returned (.bool true) ∧ Below W.heap.size W w' := by
  obtain ⟨o, p, n, c, rfl, K, hK⟩ := open_ow hv h
  obtain ⟨y, rfl, -⟩ := Cl.open_rc hv1 h1
  obtain ⟨z, rfl, -⟩ := Cl.open_rc hv2 h2
  obtain ⟨a, rfl⟩ := Cl.open_id hv3 h3
  exact lwith_any o y z a hK
end

end Go.Proofs.Ytplkhinjlgmilaa.Ow
