/- The laws of events at arguments (3). -/
import Derived.Test.YtckjdncacinnkaaDoorEvT
import Derived.Test.YtckjdncacinnkaaDoorEvA
namespace Go.Proofs.YtckjdncacinnkaaDoor.Ev
open Go.RowKit Go.Deep Go.ChangeShapes Go.WideShapes IdM Se EvM It
set_option linter.unusedVariables false

section
variable {H : Type} {en : TypeId × Value → H} {W : World} {r : Reach} {b0 : Nat} {v v2 kv_ : Value} {d d2 dk : DataW H} {q q2 qk : List MemPlace}

theorem tells_all (kind : Int) (hv0 : Value.okWide Tryd.prog W r b0 22 v) (h0 : DataW.Trod en Tryd.prog W 0 (fun _ => true) true 22 v d q) (hvk : Value.okWide Tryd.prog W r b0 26 kv_) (hk : DataW.Trod en Tryd.prog W 0 (fun _ => true) true 26 kv_ dk qk) (hT : Tab W) : Calls Tryd.prog 3 #[v, .int .i64 kind, kv_] W fun e w' => e = .returned (.bool true) ∧ Below W.heap.size W w' := by
  obtain ⟨L, h1, h2, _⟩ := open_evs hv0 h0
  obtain ⟨kn, ki, ks, ka, rfl, k1, k2, k3, k4⟩ := Ky.open_key hvk hk
  exact tells_law h1 h2 kind ⟨kn, ki, ks, ka⟩ ⟨k1, k2, k3, k4⟩ hT

theorem commutes_all (kind : Int) (hv0 : Value.okWide Tryd.prog W r b0 22 v) (h0 : DataW.Trod en Tryd.prog W 0 (fun _ => true) true 22 v d q) (hv1 : Value.okWide Tryd.prog W r b0 22 v2) (h1' : DataW.Trod en Tryd.prog W 0 (fun _ => true) true 22 v2 d2 q2) (hvk : Value.okWide Tryd.prog W r b0 26 kv_) (hk : DataW.Trod en Tryd.prog W 0 (fun _ => true) true 26 kv_ dk qk) (hT : Tab W) : Calls Tryd.prog 6 #[v, v2, .int .i64 kind, kv_] W fun e w' => e = .returned (.bool true) ∧ Below W.heap.size W w' := by
  obtain ⟨L, h1, h2, _, h4⟩ := open_evs hv0 h0
  obtain ⟨M, g1, g2, _, g4⟩ := open_evs hv1 h1'
  obtain ⟨kn, ki, ks, ka, rfl, k1, k2, k3, k4⟩ := Ky.open_key hvk hk
  exact commutes_law h1 g1 h4 g4 h2 g2 kind ⟨kn, ki, ks, ka⟩ hT

end

end Go.Proofs.YtckjdncacinnkaaDoor.Ev
