/- The laws of layer 7 at the arguments as they are handed in. -/
import Derived.Test.YtjibkkgjkmdjgaaDoorIdLaws3
import Derived.Test.YtjibkkgjkmdjgaaDoorIdLaws4
import Derived.Test.YtjibkkgjkmdjgaaDoorIdLaws5
import Derived.Test.YtjibkkgjkmdjgaaDoorKy
namespace Go.Proofs.YtjibkkgjkmdjgaaDoor.Id
open Go.RowKit Go.Sort St IdM BsM Bs It At Rw Ky
set_option linter.unusedVariables false

set_option maxRecDepth 100000 in
theorem tells_all {H : Type} {enc : TypeId × Value → H} {W : World} {r r' : Reach} {b0 b1 : Nat} (v v' : Value) {d d' : DataW H} {p p' : List MemPlace} (hv : Value.okWide Tryd.prog W r b0 25 v) (h : DataW.Trod enc Tryd.prog W 0 (fun _ => true) true 25 v d p)
    (hv' : Value.okWide Tryd.prog W r' b1 25 v') (h' : DataW.Trod enc Tryd.prog W 0 (fun _ => true) true 25 v' d' p') (hE : Env W) :
    Calls Tryd.prog 3 #[v, v'] W fun e w' => e = .returned (.bool true) ∧ Below W.heap.size W w' := by
  obtain ⟨n, i, s, a, rfl, h1, h2, h3, h4⟩ := open_key hv h
  obtain ⟨n', i', s', a', rfl, _⟩ := open_key hv' h'
  exact tells_any n i s a n' i' s' a' W hE h1 h2 h3 h4
set_option maxRecDepth 100000 in
theorem back_all {H : Type} {enc : TypeId × Value → H} {W : World} {r : Reach} {b0 : Nat} (v : Value) {d : DataW H} {p : List MemPlace} (hv : Value.okWide Tryd.prog W r b0 25 v) (h : DataW.Trod enc Tryd.prog W 0 (fun _ => true) true 25 v d p) (hE : Env W) :
    Calls Tryd.prog 5 #[v] W fun e w' => e = .returned (.bool true) ∧ Below W.heap.size W w' := by
  obtain ⟨n, i, s, a, rfl, _⟩ := open_key hv h
  exact back_any n i s a W hE
set_option maxRecDepth 100000 in
theorem row_all {H : Type} {enc : TypeId × Value → H} {W : World} {r r' r'' : Reach} {b0 b1 b2 : Nat} (v v' v'' : Value) {d d' d'' : DataW H} {p p' p'' : List MemPlace} (hv : Value.okWide Tryd.prog W r b0 25 v) (h : DataW.Trod enc Tryd.prog W 0 (fun _ => true) true 25 v d p)
    (hv' : Value.okWide Tryd.prog W r' b1 25 v') (h' : DataW.Trod enc Tryd.prog W 0 (fun _ => true) true 25 v' d' p')
    (hv'' : Value.okWide Tryd.prog W r'' b2 25 v'') (h'' : DataW.Trod enc Tryd.prog W 0 (fun _ => true) true 25 v'' d'' p'') (hE : Env W) :
    Calls Tryd.prog 6 #[v, v', v''] W fun e w' => e = .returned (.bool true) ∧ Below W.heap.size W w' := by
  obtain ⟨n, i, s, a, rfl, _⟩ := open_key hv h
  obtain ⟨n', i', s', a', rfl, _⟩ := open_key hv' h'
  obtain ⟨m, j, t, b, rfl, _⟩ := open_key hv'' h''
  exact row_any n i s a n' i' s' a' m j t b W hE

end Go.Proofs.YtjibkkgjkmdjgaaDoor.Id
