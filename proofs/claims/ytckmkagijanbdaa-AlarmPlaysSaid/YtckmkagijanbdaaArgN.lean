/- How a name of an alarm lies as an argument. -/
import Derived.Test.YtckmkagijanbdaaKy
import Derived.Test.YtckmkagijanbdaaAlM
namespace Go.Proofs.Ytckmkagijanbdaa.Ky
open Go.RowKit Go.Deep Go.ChangeShapes Go.WideShapes IdM
set_option linter.unusedVariables false

theorem cells5 : Try.prog.cellsOf 33 = 5 := by kernel_rfl
set_option maxRecDepth 100000 in
theorem open_name {H : Type} {enc : TypeId × Value → H} {W : World} {r : Reach} {b0 : Nat} {v : Value} {d : DataW H} {p : List MemPlace} (hv : Value.okWide Try.prog W r b0 33 v)
    (h : DataW.Trod enc Try.prog W 0 (fun _ => true) true 33 v d p) :
    ∃ x : Al.Nm, v = .agg #[.int .i64 x.n, .int .i64 x.i, .int .i64 x.s, .int .i64 x.a, .int .i64 x.k] ∧ Al.okN x := by
  obtain ⟨cs, rfl, hcs⟩ := okWide_struct Try.underlying33 hv
  rw [cells5] at hcs
  obtain ⟨fuel, hf⟩ := h
  obtain ⟨l⟩ := cs
  match l, hcs with
  | [c0, c1, c2, c3, c4], _ =>
    obtain ⟨y0, y1, m, _, _, t0, t1⟩ := trod_struct2 Try.underlying33 hf
    simp only [cells4, cells1, Value.cells, List.drop, List.take] at t0 t1
    obtain ⟨x0, x1, m1, _, _, s0, s1⟩ := trod_struct2 Try.underlying31 t0
    simp only [cells3, cells1, List.drop, List.take] at s0 s1
    obtain ⟨z0, z1, z2, m2, _, _, u0, u1, u2⟩ := trod_struct3 Try.underlying29 s0
    simp only [cells1, List.drop, List.take] at u0 u1 u2
    obtain ⟨n, h0, _, w0⟩ := DataW.trod_int Try.underlying3 u0
    obtain ⟨i, h1, _, w1⟩ := DataW.trod_int Try.underlying3 u1
    obtain ⟨s, h2, _, w2⟩ := DataW.trod_int Try.underlying3 u2
    obtain ⟨a, h3, _, w3⟩ := DataW.trod_int Try.underlying3 s1
    obtain ⟨k, h4, _, w4⟩ := DataW.trod_int Try.underlying3 t1
    simp only [List.cons.injEq, and_true] at h0 h1 h2 h3 h4
    subst h0; subst h1; subst h2; subst h3; subst h4
    exact ⟨⟨n, i, s, a, k⟩, rfl, i64_of w0, i64_of w1, i64_of w2, i64_of w3, i64_of w4⟩

end Go.Proofs.Ytckmkagijanbdaa.Ky
