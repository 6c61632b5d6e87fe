/- The law of deadlines at arguments. -/
import Derived.Test.YtncdiggejofbbaaDoorSnI
import Derived.Test.YtncdiggejofbbaaDoorOwX
import Derived.Test.YtncdiggejofbbaaDoorCf
namespace Go.Proofs.YtncdiggejofbbaaDoor.Sn
open Go.RowKit Go.Deep Go.ChangeShapes Go.WideShapes
set_option linter.unusedVariables false

section
variable {H : Type} {en : TypeId × Value → H} {W : World} {r : Reach} {b0 : Nat} {v v1 v2 : Value} {d d1 d2 : DataW H} {q q1 q2 : List MemPlace}

set_option maxRecDepth 100000 in
theorem budget_all (me now : Int) (hv : Value.okWide Tryd.prog W r b0 24 v) (h : DataW.Trod en Tryd.prog W 0 (fun _ => true) true 24 v d q)
    (hv1 : Value.okWide Tryd.prog W r b0 31 v1) (h1 : DataW.Trod en Tryd.prog W 0 (fun _ => true) true 31 v1 d1 q1)
    (hv2 : Value.okWide Tryd.prog W r b0 33 v2) (h2 : DataW.Trod en Tryd.prog W 0 (fun _ => true) true 33 v2 d2 q2)  (ht : Tm.Tab W) :
    Calls Tryd.prog 6 #[v, .int .i64 me, v1, v2, .int .i64 now] W fun e w' => e = .returned (.bool true) ∧ Below W.heap.size W w' := by
  obtain ⟨cf, rfl, hl⟩ := Ad.open_cf hv h
  obtain ⟨o, p, nn, c, rfl, hhp, K, hK, -⟩ := Ow.open_ow2 hv1 h1
  obtain ⟨y, rfl, hy⟩ := Cl.open_rc hv2 h2
  exact budget_any cf me o y now hK ht hy hhp hl.2.1
end

end Go.Proofs.YtncdiggejofbbaaDoor.Sn
