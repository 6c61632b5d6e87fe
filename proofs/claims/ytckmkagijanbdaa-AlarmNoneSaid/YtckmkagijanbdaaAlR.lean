/- The laws of alarms at arguments: a grain, names, times. -/
import Derived.Test.YtckmkagijanbdaaAl10
import Derived.Test.YtckmkagijanbdaaAlN
namespace Go.Proofs.Ytckmkagijanbdaa.Al
open Go.RowKit Go.Sort Tk Wh IdM
open St (Kept)
set_option linter.unusedVariables false

section
variable {H : Type} {enc : TypeId × Value → H} {W : World} {r : Reach} {b0 : Nat} {v v' : Value} {d d' : DataW H} {q q' : List MemPlace}
set_option maxRecDepth 100000 in
theorem aexact_all (p t again ask : Int) (hv : Value.okWide Try.prog W r b0 33 v) (h : DataW.Trod enc Try.prog W 0 (fun _ => true) true 33 v d q) :
    Calls Try.prog 4 #[.int .i64 p, v, .int .i64 t, .int .i64 again, .int .i64 ask] W fun e w' => e = .returned (.bool true) ∧ Kept W w' := by
  obtain ⟨⟨n, i, s, a, k⟩, rfl, hx⟩ := Ky.open_name hv h
  exact aexact_any p hx t again ask W
set_option maxRecDepth 100000 in
theorem anone_all (t : Int) (hv : Value.okWide Try.prog W r b0 33 v) (h : DataW.Trod enc Try.prog W 0 (fun _ => true) true 33 v d q) :
    Calls Try.prog 6 #[v, .int .i64 t] W fun e w' => e = .returned (.bool true) ∧ Kept W w' := by
  obtain ⟨⟨n, i, s, a, k⟩, rfl, hx⟩ := Ky.open_name hv h
  exact anone_any n i s a k t W
set_option maxRecDepth 100000 in
theorem aapart_all (p t u ask : Int) (hv : Value.okWide Try.prog W r b0 33 v) (h : DataW.Trod enc Try.prog W 0 (fun _ => true) true 33 v d q)
    (hv' : Value.okWide Try.prog W r b0 33 v') (h' : DataW.Trod enc Try.prog W 0 (fun _ => true) true 33 v' d' q') :
    Calls Try.prog 5 #[.int .i64 p, v, v', .int .i64 t, .int .i64 u, .int .i64 ask] W fun e w' => e = .returned (.bool true) ∧ Kept W w' := by
  obtain ⟨⟨n, i, s, a, k⟩, rfl, hx⟩ := Ky.open_name hv h
  obtain ⟨⟨n', i', s', a', k'⟩, rfl, hy⟩ := Ky.open_name hv' h'
  by_cases c : (⟨n, i, s, a, k⟩ : Nm) = ⟨n', i', s', a', k'⟩
  · simp only [Nm.mk.injEq] at c
    obtain ⟨rfl, rfl, rfl, rfl, rfl⟩ := c
    exact aapart_same p n i s a k t u ask W
  · exact aapart_not p hx hy c t u ask W
end

end Go.Proofs.Ytckmkagijanbdaa.Al
