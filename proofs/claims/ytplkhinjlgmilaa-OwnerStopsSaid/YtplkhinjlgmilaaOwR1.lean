/- The law of stops at arguments. -/
import Derived.Test.YtplkhinjlgmilaaOwH
import Derived.Test.YtplkhinjlgmilaaOwM
namespace Go.Proofs.Ytplkhinjlgmilaa.Ow
open Go.RowKit Go.Deep Go.ChangeShapes Go.WideShapes
set_option linter.unusedVariables false

section
variable {H : Type} {en : TypeId × Value → H} {W : World} {r : Reach} {b0 : Nat} {v : Value} {d : DataW H} {q : List MemPlace}

set_option maxRecDepth 100000 in
theorem stops_all (t x : Int) (hv : Value.okWide Try.prog W r b0 28 v) (h : DataW.Trod en Try.prog W 0 (fun _ => true) true 28 v d q) :
    Calls Try.prog 6 #[v, .int .i64 t, .int .i64 x] W fun e w' => e = .returned (.bool true) ∧ Below W.heap.size W w' := by
  obtain ⟨o, p, n, c, rfl, K, hK⟩ := open_ow hv h
  exact stops_any o hK t x
end

end Go.Proofs.Ytplkhinjlgmilaa.Ow
