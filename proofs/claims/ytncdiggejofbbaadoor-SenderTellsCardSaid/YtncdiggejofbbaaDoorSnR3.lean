/- The law of answers at arguments. -/
import Derived.Test.YtncdiggejofbbaaDoorSnH
import Derived.Test.YtncdiggejofbbaaDoorOwX
namespace Go.Proofs.YtncdiggejofbbaaDoor.Sn
open Go.RowKit Go.Deep Go.ChangeShapes Go.WideShapes
set_option linter.unusedVariables false

section
variable {H : Type} {en : TypeId × Value → H} {W : World} {r : Reach} {b0 : Nat} {v v1 v2 : Value} {d d1 d2 : DataW H} {q q1 q2 : List MemPlace}

set_option maxRecDepth 100000 in
theorem tells_all (me now n vv dly : Int) (hv1 : Value.okWide Tryd.prog W r b0 31 v1) (h1 : DataW.Trod en Tryd.prog W 0 (fun _ => true) true 31 v1 d1 q1)
     (ht : Tm.Tab W) :
    Calls Tryd.prog 5 #[.int .i64 me, v1, .int .i64 now, .int .i64 n, .int .i64 vv, .int .i64 dly] W fun e w' => e = .returned (.bool true) ∧ Below W.heap.size W w' := by
  obtain ⟨o, p, nn, c, rfl, K, hK⟩ := Ow.open_ow hv1 h1
  exact tells_any me o now n vv dly hK ht
end

end Go.Proofs.YtncdiggejofbbaaDoor.Sn
