/- The laws of layer 21 at the arguments as they are handed in. -/
import Derived.Test.YtpicjcophjekpaaCl6
import Derived.Test.YtpicjcophjekpaaCl7
import Derived.Test.YtpicjcophjekpaaCl8
namespace Go.Proofs.Ytpicjcophjekpaa.Cl
open Go.RowKit Go.Deep Go.ChangeShapes Go.WideShapes Ad Po
set_option linter.unusedVariables false

section
variable {H : Type} {enc : TypeId × Value → H} {W : World} {r0 r1 r2 : Reach} {b0 b1 b2 : Nat} {v0 v1 v2 : Value} {d0 d1 d2 : DataW H} {q0 q1 q2 : List MemPlace}
theorem plays_all (wt gr : Int) (k0 : Value.okWide Try.prog W r0 b0 25 v0) (h0 : DataW.Trod enc Try.prog W 0 (fun _ => true) true 25 v0 d0 q0)
    (k1 : Value.okWide Try.prog W r1 b1 28 v1) (h1 : DataW.Trod enc Try.prog W 0 (fun _ => true) true 28 v1 d1 q1)
    (k2 : Value.okWide Try.prog W r2 b2 29 v2) (h2 : DataW.Trod enc Try.prog W 0 (fun _ => true) true 29 v2 d2 q2) :
    Calls Try.prog 3 #[v0, v1, v2, .int .i64 wt, .int .i64 gr] W fun e w' => e = .returned (.bool true) ∧ Below W.heap.size W w' := by
  obtain ⟨c, rfl, hc⟩ := open_rc k0 h0
  obtain ⟨g, rfl, _⟩ := open_cf k1 h1
  obtain ⟨len, F, hD⟩ := open_deeds k2 h2
  exact plays_any c hc g hD wt gr
theorem bounds_all (k0 : Value.okWide Try.prog W r0 b0 23 v0) (h0 : DataW.Trod enc Try.prog W 0 (fun _ => true) true 23 v0 d0 q0)
    (k1 : Value.okWide Try.prog W r1 b1 28 v1) (h1 : DataW.Trod enc Try.prog W 0 (fun _ => true) true 28 v1 d1 q1)
    (k2 : Value.okWide Try.prog W r2 b2 29 v2) (h2 : DataW.Trod enc Try.prog W 0 (fun _ => true) true 29 v2 d2 q2) :
    Calls Try.prog 4 #[v0, v1, v2] W fun e w' => e = .returned (.bool true) ∧ Below W.heap.size W w' := by
  obtain ⟨a, rfl⟩ := open_id k0 h0
  obtain ⟨g, rfl, _⟩ := open_cf k1 h1
  obtain ⟨len, F, hD⟩ := open_deeds k2 h2
  exact bounds_any a g hD
theorem waits_all (n wt gr : Int) (k0 : Value.okWide Try.prog W r0 b0 28 v0) (h0 : DataW.Trod enc Try.prog W 0 (fun _ => true) true 28 v0 d0 q0)
    (k1 : Value.okWide Try.prog W r1 b1 35 v1) (h1 : DataW.Trod enc Try.prog W 0 (fun _ => true) true 35 v1 d1 q1) :
    Calls Try.prog 5 #[v0, v1, .int .i64 n, .int .i64 wt, .int .i64 gr] W fun e w' => e = .returned (.bool true) ∧ Below W.heap.size W w' := by
  obtain ⟨g, rfl, _⟩ := open_cf k0 h0
  obtain ⟨f, rfl, _⟩ := open_ft k1 h1
  exact waits_any g f n wt gr W
end

end Go.Proofs.Ytpicjcophjekpaa.Cl
