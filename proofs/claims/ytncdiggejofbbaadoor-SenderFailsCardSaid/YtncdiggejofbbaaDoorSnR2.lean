/- The law of what fails at arguments. -/
import Derived.Test.YtncdiggejofbbaaDoorSnF
import Derived.Test.YtncdiggejofbbaaDoorOwX
import Derived.Test.YtncdiggejofbbaaDoorCf
namespace Go.Proofs.YtncdiggejofbbaaDoor.Sn
open Go.RowKit Go.Deep Go.ChangeShapes Go.WideShapes
set_option linter.unusedVariables false

section
variable {H : Type} {en : TypeId × Value → H} {W : World} {r : Reach} {b0 : Nat} {v v1 v2 : Value} {d d1 d2 : DataW H} {q q1 q2 : List MemPlace}

set_option maxRecDepth 100000 in
theorem fails_all (me now hv' n push : Int) (hv : Value.okWide Tryd.prog W r b0 24 v) (h : DataW.Trod en Tryd.prog W 0 (fun _ => true) true 24 v d q)
    (hv1 : Value.okWide Tryd.prog W r b0 31 v1) (h1 : DataW.Trod en Tryd.prog W 0 (fun _ => true) true 31 v1 d1 q1)
    (hv2 : Value.okWide Tryd.prog W r b0 33 v2) (h2 : DataW.Trod en Tryd.prog W 0 (fun _ => true) true 33 v2 d2 q2)  (ht : Tm.Tab W) :
    Calls Tryd.prog 4 #[v, .int .i64 me, v1, v2, .int .i64 now, .int .i64 hv', .int .i64 n, .int .i64 push] W fun e w' => e = .returned (.bool true) ∧ Below W.heap.size W w' := by
  obtain ⟨cf, rfl, -⟩ := Ad.open_cf hv h
  obtain ⟨o, p, nn, c, rfl, K, hK⟩ := Ow.open_ow hv1 h1
  obtain ⟨y, rfl, hy⟩ := Cl.open_rc hv2 h2
  exact fails_any cf me o y now hv' n push hK ht hy
end

end Go.Proofs.YtncdiggejofbbaaDoor.Sn
