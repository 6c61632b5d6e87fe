/- The laws of programs at arguments: two programs, and all of a configuration. -/
import Derived.Test.YtkifekchalppnaaDoorPg14
import Derived.Test.YtkifekchalppnaaDoorPg15
namespace Go.Proofs.YtkifekchalppnaaDoor.Pg
open Go.RowKit Go.Deep Go.ChangeShapes Go.WideShapes Args At
set_option linter.unusedVariables false

section
variable {H : Type} {en : TypeId × Value → H} {W : World} {r : Reach} {b0 : Nat}

set_option maxRecDepth 100000 in
theorem joins_all {v u : Value} {d e : DataW H} {q s : List MemPlace} (n p : Int) (hv : Value.okWide Tryd.prog W r b0 22 v) (h : DataW.Trod en Tryd.prog W 0 (fun _ => true) true 22 v d q)
    (hu : Value.okWide Tryd.prog W r b0 22 u) (k : DataW.Trod en Tryd.prog W 0 (fun _ => true) true 22 u e s) (hE : Env W) :
    Calls Tryd.prog 7 #[v, u, .int .i64 n, .int .i64 p] W fun e w' => e = .returned (.bool true) ∧ Below W.heap.size W w' := by
  obtain ⟨L, h1, h2⟩ := open_ops hv h
  obtain ⟨K, k1, k2⟩ := open_ops hu k
  exact joins_any h1 k1 h2 k2 n p hE

set_option maxRecDepth 100000 in
theorem lall_all {v : Value} {d : DataW H} {q : List MemPlace} (hv : Value.okWide Tryd.prog W r b0 32 v) (h : DataW.Trod en Tryd.prog W 0 (fun _ => true) true 32 v d q) (hE : Env W) :
    Calls Tryd.prog 4 #[v] W fun e w' => e = .returned (.bool true) ∧ Below W.heap.size W w' := by
  obtain ⟨c, rfl, M, h1, _⟩ := open_cfp hv h
  exact lall_any h1 hE
end

end Go.Proofs.YtkifekchalppnaaDoor.Pg
