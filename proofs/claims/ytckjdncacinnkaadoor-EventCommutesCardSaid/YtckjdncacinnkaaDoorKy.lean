/- How a key lies as an argument. -/
import Derived.Test.YtckjdncacinnkaaDoorIdM0
import Derived.Test.YtckjdncacinnkaaDoorSt
import Derived.ChangeSame
import Derived.ChangeArms
import Derived.WideShapes
import Derived.Deep.Strs
namespace Go.Proofs.YtckjdncacinnkaaDoor.Ky
open Go.RowKit Go.Deep Go.ChangeShapes Go.WideShapes IdM
set_option linter.unusedVariables false

theorem i64_of {a : Int} (h : (Lit.int .i64 a).wf = true) : I64 a := by
  simp only [Lit.wf, Bool.and_eq_true, decide_eq_true_eq] at h
  have h1 := h.1
  have h2 := h.2
  simp only [show IntKind.i64.max = 9223372036854775807 from rfl] at h2
  simp only [show IntKind.i64.min = -9223372036854775808 from rfl] at h1
  exact ⟨h1, h2⟩
theorem cells3 : Tryd.prog.cellsOf 24 = 3 := by kernel_rfl
theorem cells4 : Tryd.prog.cellsOf 26 = 4 := by kernel_rfl
theorem cells1 : Tryd.prog.cellsOf 3 = 1 := by kernel_rfl
set_option maxRecDepth 100000 in
theorem open_key {H : Type} {enc : TypeId × Value → H} {W : World} {r : Reach} {b0 : Nat} {v : Value} {d : DataW H} {p : List MemPlace} (hv : Value.okWide Tryd.prog W r b0 26 v)
    (h : DataW.Trod enc Tryd.prog W 0 (fun _ => true) true 26 v d p) :
    ∃ n i s a : Int, v = .agg #[.int .i64 n, .int .i64 i, .int .i64 s, .int .i64 a] ∧ I64 n ∧ I64 i ∧ I64 s ∧ I64 a := by
  obtain ⟨cs, rfl, hcs⟩ := okWide_struct Tryd.underlying26 hv
  rw [cells4] at hcs
  obtain ⟨fuel, hf⟩ := h
  obtain ⟨l⟩ := cs
  match l, hcs with
  | [c0, c1, c2, c3], _ =>
    obtain ⟨y0, y1, m, _, _, t0, t1⟩ := trod_struct2 Tryd.underlying26 hf
    simp only [cells3, cells1, Value.cells, List.drop, List.take] at t0 t1
    obtain ⟨z0, z1, z2, m2, _, _, u0, u1, u2⟩ := trod_struct3 Tryd.underlying24 t0
    simp only [cells1, List.drop, List.take] at u0 u1 u2
    obtain ⟨n, h0, _, w0⟩ := DataW.trod_int Tryd.underlying3 u0
    obtain ⟨i, h1, _, w1⟩ := DataW.trod_int Tryd.underlying3 u1
    obtain ⟨s, h2, _, w2⟩ := DataW.trod_int Tryd.underlying3 u2
    obtain ⟨a, h3, _, w3⟩ := DataW.trod_int Tryd.underlying3 t1
    simp only [List.cons.injEq, and_true] at h0 h1 h2 h3
    subst h0; subst h1; subst h2; subst h3
    exact ⟨n, i, s, a, rfl, i64_of w0, i64_of w1, i64_of w2, i64_of w3⟩

end Go.Proofs.YtckjdncacinnkaaDoor.Ky
