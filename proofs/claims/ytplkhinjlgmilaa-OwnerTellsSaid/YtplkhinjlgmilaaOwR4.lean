/- The law of what is told at arguments. -/
import Derived.Test.YtplkhinjlgmilaaOwL
import Derived.Test.YtplkhinjlgmilaaOwM
namespace Go.Proofs.Ytplkhinjlgmilaa.Ow
open Go.RowKit Go.Deep Go.ChangeShapes Go.WideShapes
set_option linter.unusedVariables false

section
variable {H : Type} {en : TypeId × Value → H} {W : World} {r : Reach} {b0 : Nat} {v v1 v2 : Value} {d d1 d2 : DataW H} {q q1 q2 : List MemPlace}

set_option maxRecDepth 100000 in
theorem tells_all (t x : Int) (hv : Value.okWide Try.prog W r b0 28 v) (h : DataW.Trod en Try.prog W 0 (fun _ => true) true 28 v d q)
    (hv1 : Value.okWide Try.prog W r b0 28 v1) (h1 : DataW.Trod en Try.prog W 0 (fun _ => true) true 28 v1 d1 q1)
    (hv2 : Value.okWide Try.prog W r b0 30 v2) (h2 : DataW.Trod en Try.prog W 0 (fun _ => true) true 30 v2 d2 q2) :
    Calls Try.prog 3 #[v, v1, v2, .int .i64 t, .int .i64 x] W fun e w' => e = .returned (.bool true) ∧ Below W.heap.size W w' := by
  obtain ⟨o, p, n, c, rfl, K, hK⟩ := open_ow hv h
  obtain ⟨o1, p1, n1, c1, rfl, K1, hK1⟩ := open_ow hv1 h1
  obtain ⟨y, rfl, -⟩ := Cl.open_rc hv2 h2
  exact tells_any o o1 y hK hK1 t x
end

end Go.Proofs.Ytplkhinjlgmilaa.Ow
