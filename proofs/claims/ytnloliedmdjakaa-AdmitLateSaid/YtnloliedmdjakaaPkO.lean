/- How a packet lies as an argument. -/
import Derived.Test.YtnloliedmdjakaaPkS
import Derived.ChangeSame
import Derived.ChangeArms
import Derived.WideShapes
import Derived.Deep.Strs
import Derived.Test.YtnloliedmdjakaaKy
namespace Go.Proofs.Ytnloliedmdjakaa.Pk
open Go.RowKit Go.Deep Go.ChangeShapes Go.WideShapes IdM PkM
open Go.Proofs.Ytnloliedmdjakaa.Ky (i64_of)
set_option linter.unusedVariables false
set_option linter.unusedSimpArgs false

theorem cells23 : Try.prog.cellsOf 30 = 23 := by kernel_rfl
theorem cellsId : Try.prog.cellsOf 26 = 3 := by kernel_rfl
theorem cellsKey : Try.prog.cellsOf 28 = 4 := by kernel_rfl
theorem cellsInt : Try.prog.cellsOf 3 = 1 := by kernel_rfl
theorem cellsStr : Try.prog.cellsOf 9 = 1 := by kernel_rfl
theorem cellsBool : Try.prog.cellsOf 4 = 1 := by kernel_rfl

set_option maxRecDepth 100000 in
theorem key_cells {H : Type} {enc : TypeId × Value → H} {W : World} {n : Nat} {c0 c1 c2 c3 : Value} {y : DataW H × List MemPlace} (h : DataW.trod enc Try.prog W 0 (fun _ => true) true n 28 [c0, c1, c2, c3] = some y) :
    ∃ a b c d : Int, c0 = .int .i64 a ∧ c1 = .int .i64 b ∧ c2 = .int .i64 c ∧ c3 = .int .i64 d ∧ I64 a ∧ I64 b ∧ I64 c ∧ I64 d := by
  obtain ⟨y0, y1, m, _, _, t0, t1⟩ := trod_struct2 Try.underlying28 h
  simp only [cellsId, cellsInt, List.drop, List.take] at t0 t1
  obtain ⟨z0, z1, z2, m2, _, _, u0, u1, u2⟩ := trod_struct3 Try.underlying26 t0
  simp only [cellsInt, List.drop, List.take] at u0 u1 u2
  obtain ⟨a, h0, _, w0⟩ := DataW.trod_int Try.underlying3 u0
  obtain ⟨b, h1, _, w1⟩ := DataW.trod_int Try.underlying3 u1
  obtain ⟨c, h2, _, w2⟩ := DataW.trod_int Try.underlying3 u2
  obtain ⟨d, h3, _, w3⟩ := DataW.trod_int Try.underlying3 t1
  simp only [List.cons.injEq, and_true] at h0 h1 h2 h3
  exact ⟨a, b, c, d, h0, h1, h2, h3, i64_of w0, i64_of w1, i64_of w2, i64_of w3⟩
set_option maxRecDepth 100000 in
theorem id_cells {H : Type} {enc : TypeId × Value → H} {W : World} {n : Nat} {c0 c1 c2 : Value} {y : DataW H × List MemPlace} (h : DataW.trod enc Try.prog W 0 (fun _ => true) true n 26 [c0, c1, c2] = some y) :
    ∃ a b c : Int, c0 = .int .i64 a ∧ c1 = .int .i64 b ∧ c2 = .int .i64 c ∧ I64 a ∧ I64 b ∧ I64 c := by
  obtain ⟨z0, z1, z2, m2, _, _, u0, u1, u2⟩ := trod_struct3 Try.underlying26 h
  simp only [cellsInt, List.drop, List.take] at u0 u1 u2
  obtain ⟨a, h0, _, w0⟩ := DataW.trod_int Try.underlying3 u0
  obtain ⟨b, h1, _, w1⟩ := DataW.trod_int Try.underlying3 u1
  obtain ⟨c, h2, _, w2⟩ := DataW.trod_int Try.underlying3 u2
  simp only [List.cons.injEq, and_true] at h0 h1 h2
  exact ⟨a, b, c, h0, h1, h2, i64_of w0, i64_of w1, i64_of w2⟩
theorem int_cell {H : Type} {enc : TypeId × Value → H} {W : World} {n : Nat} {c0 : Value} {y : DataW H × List MemPlace} (h : DataW.trod enc Try.prog W 0 (fun _ => true) true n 3 [c0] = some y) : ∃ a : Int, c0 = .int .i64 a ∧ I64 a := by
  obtain ⟨a, h0, _, w0⟩ := DataW.trod_int Try.underlying3 h
  simp only [List.cons.injEq, and_true] at h0
  exact ⟨a, h0, i64_of w0⟩

set_option maxRecDepth 100000 in
set_option maxHeartbeats 4000000 in
theorem open_pk {H : Type} {enc : TypeId × Value → H} {W : World} {r : Reach} {b0 : Nat} {v : Value} {d : DataW H} {q : List MemPlace} (hv : Value.okWide Try.prog W r b0 30 v)
    (h : DataW.Trod enc Try.prog W 0 (fun _ => true) true 30 v d q) : ∃ p : Pk, v = .agg p.arr ∧ Nm p := by
  obtain ⟨cs, rfl, hcs⟩ := okWide_struct Try.underlying30 hv
  rw [cells23] at hcs
  obtain ⟨fuel, hf⟩ := h
  obtain ⟨l⟩ := cs
  match l, hcs with
  | [c0, c1, c2, c3, c4, c5, c6, c7, c8, c9, c10, c11, c12, c13, c14, c15, c16, c17, c18, c19, c20, c21, c22], _ =>
    obtain ⟨xs, n, _, _, hl, hlen, hg⟩ := DataW.trod_struct Try.underlying30 hf
    match xs, hlen with
    | [y0, y1, y2, y3, y4, y5, y6, y7, y8, y9, y10, y11, y12, y13, y14], _ =>
      have s0 : DataW.trod enc Try.prog W 0 (fun _ => true) true n 3 ((List.drop 0 [c0, c1, c2, c3, c4, c5, c6, c7, c8, c9, c10, c11, c12, c13, c14, c15, c16, c17, c18, c19, c20, c21, c22]).take (Try.prog.cellsOf 3)) = ([y0, y1, y2, y3, y4, y5, y6, y7, y8, y9, y10, y11, y12, y13, y14] : List (DataW H × List MemPlace))[0]? := hg 0 _ rfl
      rw [cellsInt] at s0
      have t0 : DataW.trod enc Try.prog W 0 (fun _ => true) true n 3 [c0] = some y0 := s0
      clear s0
      have s1 : DataW.trod enc Try.prog W 0 (fun _ => true) true n 3 ((List.drop 1 [c0, c1, c2, c3, c4, c5, c6, c7, c8, c9, c10, c11, c12, c13, c14, c15, c16, c17, c18, c19, c20, c21, c22]).take (Try.prog.cellsOf 3)) = ([y0, y1, y2, y3, y4, y5, y6, y7, y8, y9, y10, y11, y12, y13, y14] : List (DataW H × List MemPlace))[1]? := hg 1 _ rfl
      rw [cellsInt] at s1
      have t1 : DataW.trod enc Try.prog W 0 (fun _ => true) true n 3 [c1] = some y1 := s1
      clear s1
      have s2 : DataW.trod enc Try.prog W 0 (fun _ => true) true n 3 ((List.drop 2 [c0, c1, c2, c3, c4, c5, c6, c7, c8, c9, c10, c11, c12, c13, c14, c15, c16, c17, c18, c19, c20, c21, c22]).take (Try.prog.cellsOf 3)) = ([y0, y1, y2, y3, y4, y5, y6, y7, y8, y9, y10, y11, y12, y13, y14] : List (DataW H × List MemPlace))[2]? := hg 2 _ rfl
      rw [cellsInt] at s2
      have t2 : DataW.trod enc Try.prog W 0 (fun _ => true) true n 3 [c2] = some y2 := s2
      clear s2
      have s3 : DataW.trod enc Try.prog W 0 (fun _ => true) true n 28 ((List.drop 3 [c0, c1, c2, c3, c4, c5, c6, c7, c8, c9, c10, c11, c12, c13, c14, c15, c16, c17, c18, c19, c20, c21, c22]).take (Try.prog.cellsOf 28)) = ([y0, y1, y2, y3, y4, y5, y6, y7, y8, y9, y10, y11, y12, y13, y14] : List (DataW H × List MemPlace))[3]? := hg 3 _ rfl
      rw [cellsKey] at s3
      have t3 : DataW.trod enc Try.prog W 0 (fun _ => true) true n 28 [c3, c4, c5, c6] = some y3 := s3
      clear s3
      have s4 : DataW.trod enc Try.prog W 0 (fun _ => true) true n 3 ((List.drop 7 [c0, c1, c2, c3, c4, c5, c6, c7, c8, c9, c10, c11, c12, c13, c14, c15, c16, c17, c18, c19, c20, c21, c22]).take (Try.prog.cellsOf 3)) = ([y0, y1, y2, y3, y4, y5, y6, y7, y8, y9, y10, y11, y12, y13, y14] : List (DataW H × List MemPlace))[4]? := hg 4 _ rfl
      rw [cellsInt] at s4
      have t4 : DataW.trod enc Try.prog W 0 (fun _ => true) true n 3 [c7] = some y4 := s4
      clear s4
      have s5 : DataW.trod enc Try.prog W 0 (fun _ => true) true n 3 ((List.drop 8 [c0, c1, c2, c3, c4, c5, c6, c7, c8, c9, c10, c11, c12, c13, c14, c15, c16, c17, c18, c19, c20, c21, c22]).take (Try.prog.cellsOf 3)) = ([y0, y1, y2, y3, y4, y5, y6, y7, y8, y9, y10, y11, y12, y13, y14] : List (DataW H × List MemPlace))[5]? := hg 5 _ rfl
      rw [cellsInt] at s5
      have t5 : DataW.trod enc Try.prog W 0 (fun _ => true) true n 3 [c8] = some y5 := s5
      clear s5
      have s6 : DataW.trod enc Try.prog W 0 (fun _ => true) true n 9 ((List.drop 9 [c0, c1, c2, c3, c4, c5, c6, c7, c8, c9, c10, c11, c12, c13, c14, c15, c16, c17, c18, c19, c20, c21, c22]).take (Try.prog.cellsOf 9)) = ([y0, y1, y2, y3, y4, y5, y6, y7, y8, y9, y10, y11, y12, y13, y14] : List (DataW H × List MemPlace))[6]? := hg 6 _ rfl
      rw [cellsStr] at s6
      have t6 : DataW.trod enc Try.prog W 0 (fun _ => true) true n 9 [c9] = some y6 := s6
      clear s6
      have s7 : DataW.trod enc Try.prog W 0 (fun _ => true) true n 3 ((List.drop 10 [c0, c1, c2, c3, c4, c5, c6, c7, c8, c9, c10, c11, c12, c13, c14, c15, c16, c17, c18, c19, c20, c21, c22]).take (Try.prog.cellsOf 3)) = ([y0, y1, y2, y3, y4, y5, y6, y7, y8, y9, y10, y11, y12, y13, y14] : List (DataW H × List MemPlace))[7]? := hg 7 _ rfl
      rw [cellsInt] at s7
      have t7 : DataW.trod enc Try.prog W 0 (fun _ => true) true n 3 [c10] = some y7 := s7
      clear s7
      have s8 : DataW.trod enc Try.prog W 0 (fun _ => true) true n 3 ((List.drop 11 [c0, c1, c2, c3, c4, c5, c6, c7, c8, c9, c10, c11, c12, c13, c14, c15, c16, c17, c18, c19, c20, c21, c22]).take (Try.prog.cellsOf 3)) = ([y0, y1, y2, y3, y4, y5, y6, y7, y8, y9, y10, y11, y12, y13, y14] : List (DataW H × List MemPlace))[8]? := hg 8 _ rfl
      rw [cellsInt] at s8
      have t8 : DataW.trod enc Try.prog W 0 (fun _ => true) true n 3 [c11] = some y8 := s8
      clear s8
      have s9 : DataW.trod enc Try.prog W 0 (fun _ => true) true n 26 ((List.drop 12 [c0, c1, c2, c3, c4, c5, c6, c7, c8, c9, c10, c11, c12, c13, c14, c15, c16, c17, c18, c19, c20, c21, c22]).take (Try.prog.cellsOf 26)) = ([y0, y1, y2, y3, y4, y5, y6, y7, y8, y9, y10, y11, y12, y13, y14] : List (DataW H × List MemPlace))[9]? := hg 9 _ rfl
      rw [cellsId] at s9
      have t9 : DataW.trod enc Try.prog W 0 (fun _ => true) true n 26 [c12, c13, c14] = some y9 := s9
      clear s9
      have s10 : DataW.trod enc Try.prog W 0 (fun _ => true) true n 28 ((List.drop 15 [c0, c1, c2, c3, c4, c5, c6, c7, c8, c9, c10, c11, c12, c13, c14, c15, c16, c17, c18, c19, c20, c21, c22]).take (Try.prog.cellsOf 28)) = ([y0, y1, y2, y3, y4, y5, y6, y7, y8, y9, y10, y11, y12, y13, y14] : List (DataW H × List MemPlace))[10]? := hg 10 _ rfl
      rw [cellsKey] at s10
      have t10 : DataW.trod enc Try.prog W 0 (fun _ => true) true n 28 [c15, c16, c17, c18] = some y10 := s10
      clear s10
      have s11 : DataW.trod enc Try.prog W 0 (fun _ => true) true n 3 ((List.drop 19 [c0, c1, c2, c3, c4, c5, c6, c7, c8, c9, c10, c11, c12, c13, c14, c15, c16, c17, c18, c19, c20, c21, c22]).take (Try.prog.cellsOf 3)) = ([y0, y1, y2, y3, y4, y5, y6, y7, y8, y9, y10, y11, y12, y13, y14] : List (DataW H × List MemPlace))[11]? := hg 11 _ rfl
      rw [cellsInt] at s11
      have t11 : DataW.trod enc Try.prog W 0 (fun _ => true) true n 3 [c19] = some y11 := s11
      clear s11
      have s12 : DataW.trod enc Try.prog W 0 (fun _ => true) true n 3 ((List.drop 20 [c0, c1, c2, c3, c4, c5, c6, c7, c8, c9, c10, c11, c12, c13, c14, c15, c16, c17, c18, c19, c20, c21, c22]).take (Try.prog.cellsOf 3)) = ([y0, y1, y2, y3, y4, y5, y6, y7, y8, y9, y10, y11, y12, y13, y14] : List (DataW H × List MemPlace))[12]? := hg 12 _ rfl
      rw [cellsInt] at s12
      have t12 : DataW.trod enc Try.prog W 0 (fun _ => true) true n 3 [c20] = some y12 := s12
      clear s12
      have s13 : DataW.trod enc Try.prog W 0 (fun _ => true) true n 4 ((List.drop 21 [c0, c1, c2, c3, c4, c5, c6, c7, c8, c9, c10, c11, c12, c13, c14, c15, c16, c17, c18, c19, c20, c21, c22]).take (Try.prog.cellsOf 4)) = ([y0, y1, y2, y3, y4, y5, y6, y7, y8, y9, y10, y11, y12, y13, y14] : List (DataW H × List MemPlace))[13]? := hg 13 _ rfl
      rw [cellsBool] at s13
      have t13 : DataW.trod enc Try.prog W 0 (fun _ => true) true n 4 [c21] = some y13 := s13
      clear s13
      have s14 : DataW.trod enc Try.prog W 0 (fun _ => true) true n 3 ((List.drop 22 [c0, c1, c2, c3, c4, c5, c6, c7, c8, c9, c10, c11, c12, c13, c14, c15, c16, c17, c18, c19, c20, c21, c22]).take (Try.prog.cellsOf 3)) = ([y0, y1, y2, y3, y4, y5, y6, y7, y8, y9, y10, y11, y12, y13, y14] : List (DataW H × List MemPlace))[14]? := hg 14 _ rfl
      rw [cellsInt] at s14
      have t14 : DataW.trod enc Try.prog W 0 (fun _ => true) true n 3 [c22] = some y14 := s14
      clear s14
      obtain ⟨kind, rfl, i0⟩ := int_cell t0
      obtain ⟨fr, rfl, i1⟩ := int_cell t1
      obtain ⟨to, rfl, i2⟩ := int_cell t2
      obtain ⟨kn, ki, ks, ka, rfl, rfl, rfl, rfl, i3, i4, i5, i6⟩ := key_cells t3
      obtain ⟨hop, rfl, i7⟩ := int_cell t4
      obtain ⟨stamp, rfl, i8⟩ := int_cell t5
      obtain ⟨tm, e9, _, _⟩ := DataW.trod_string Try.underlying9 t6
      simp only [List.cons.injEq, and_true] at e9
      subst e9
      obtain ⟨til, rfl, i10⟩ := int_cell t7
      obtain ⟨prog, rfl, i11⟩ := int_cell t8
      obtain ⟨rn, ri, rs, rfl, rfl, rfl, i12, i13, i14⟩ := id_cells t9
      obtain ⟨pn, pi, ps, pa, rfl, rfl, rfl, rfl, i15, i16, i17, i18⟩ := key_cells t10
      obtain ⟨code, rfl, i19⟩ := int_cell t11
      obtain ⟨value, rfl, i20⟩ := int_cell t12
      obtain ⟨more, e21, _⟩ := DataW.trod_bool Try.underlying4 t13
      simp only [List.cons.injEq, and_true] at e21
      subst e21
      obtain ⟨delay, rfl, i22⟩ := int_cell t14
      exact ⟨⟨kind, fr, to, kn, ki, ks, ka, hop, stamp, tm, til, prog, rn, ri, rs, pn, pi, ps, pa, code, value, more, delay⟩, rfl, ⟨i0, i1, i2, i3, i4, i5, i6, i7, i8, i10, i11, i12, i13, i14, i15, i16, i17, i18, i19, i20, i22⟩⟩

end Go.Proofs.Ytnloliedmdjakaa.Pk
