/- SetupBack at arguments. -/
import Derived.Test.YtcoagmkncjonmaaDoorSuW
import Derived.Test.YtcoagmkncjonmaaDoorPgA
namespace Go.Proofs.YtcoagmkncjonmaaDoor.Su
open Go.RowKit Go.Deep Go.ChangeShapes Go.WideShapes Args
set_option linter.unusedVariables false

section
variable {H : Type} {en : TypeId × Value → H} {W : World} {r : Reach} {b0 : Nat}

set_option maxRecDepth 100000 in
theorem back_all {v : Value} {d : DataW H} {q : List MemPlace} (hv : Value.okWide Tryd.prog W r b0 24 v) (h : DataW.Trod en Tryd.prog W 0 (fun _ => true) true 24 v d q) (hE : At.Env W) :
    Calls Tryd.prog 3 #[v] W fun e w' => e = .returned (.bool true) ∧ Below W.heap.size W w' := by
  obtain ⟨c, rfl, hw, M, h1, h2⟩ := Pg.open_cfpw hv h
  exact back_any h1 h2 hw hE

end

end Go.Proofs.YtcoagmkncjonmaaDoor.Su
