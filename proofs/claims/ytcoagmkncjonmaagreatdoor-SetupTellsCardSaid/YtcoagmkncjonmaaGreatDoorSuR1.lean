/- SetupTells at arguments. -/
import Derived.Test.YtcoagmkncjonmaaGreatDoorSuT
import Derived.Test.YtcoagmkncjonmaaGreatDoorPgA
namespace Go.Proofs.YtcoagmkncjonmaaGreatDoor.Su
open Go.RowKit Go.Deep Go.ChangeShapes Go.WideShapes Args
set_option linter.unusedVariables false

section
variable {H : Type} {en : TypeId × Value → H} {W : World} {r : Reach} {b0 : Nat}

set_option maxRecDepth 100000 in
theorem tells_all {v : Value} {d : DataW H} {q : List MemPlace} (k n : Int) (hv : Value.okWide Tryz.prog W r b0 24 v) (h : DataW.Trod en Tryz.prog W 0 (fun _ => true) true 24 v d q) (hE : At.Env W) :
    Calls Tryz.prog 3 #[v, .int .i64 k, .int .i64 n] W fun e w' => e = .returned (.bool true) ∧ Below W.heap.size W w' := by
  obtain ⟨c, rfl, hw, M, h1, h2⟩ := Pg.open_cfpw hv h
  exact tells_any h1 h2 hw k n hE

end

end Go.Proofs.YtcoagmkncjonmaaGreatDoor.Su
