/- The laws of programs at arguments. -/
import Derived.Test.YtkifekchalppnaaDoorPg13
import Derived.Test.YtkifekchalppnaaDoorPgA
namespace Go.Proofs.YtkifekchalppnaaDoor.Pg
open Go.RowKit Go.Deep Go.ChangeShapes Go.WideShapes Args At
set_option linter.unusedVariables false

section
variable {H : Type} {en : TypeId × Value → H} {W : World} {r : Reach} {b0 : Nat} {v : Value} {d : DataW H} {q : List MemPlace}

set_option maxRecDepth 100000 in
theorem tells_all (n p : Int) (hv : Value.okWide Tryd.prog W r b0 22 v) (h : DataW.Trod en Tryd.prog W 0 (fun _ => true) true 22 v d q) (hE : Env W) :
    Calls Tryd.prog 3 #[v, .int .i64 n, .int .i64 p] W fun e w' => e = .returned (.bool true) ∧ Below W.heap.size W w' := by
  obtain ⟨L, h1, h2⟩ := open_ops hv h
  exact tells_any h1 h2 n p hE

set_option maxRecDepth 100000 in
theorem back_all (n p : Int) (hv : Value.okWide Tryd.prog W r b0 22 v) (h : DataW.Trod en Tryd.prog W 0 (fun _ => true) true 22 v d q) (hE : Env W) :
    Calls Tryd.prog 6 #[v, .int .i64 n, .int .i64 p] W fun e w' => e = .returned (.bool true) ∧ Below W.heap.size W w' := by
  obtain ⟨L, h1, h2⟩ := open_ops hv h
  exact back_any h1 h2 n p hE
end

end Go.Proofs.YtkifekchalppnaaDoor.Pg
