/- How a configuration and a room lie as arguments; the laws of layer 17 at the arguments as they are handed in. -/
import Derived.Test.YtnloliedmdjakaaAd9
import Derived.Test.YtnloliedmdjakaaAd10
import Derived.Test.YtnloliedmdjakaaPkO
import Derived.ChangeSlices
import Derived.Deep.Slices
namespace Go.Proofs.Ytnloliedmdjakaa.Ad
open Go.RowKit Go.Deep Go.ChangeShapes Go.WideShapes IdM PkM
open Go.Proofs.Ytnloliedmdjakaa.Pk (int_cell cellsInt cellsBool open_pk)
set_option linter.unusedVariables false
set_option linter.unusedSimpArgs false

theorem cells14 : Try.prog.cellsOf 24 = 14 := by kernel_rfl
theorem cells4r : Try.prog.cellsOf 32 = 4 := by kernel_rfl
theorem cellsSl : Try.prog.cellsOf 22 = 1 := by kernel_rfl
theorem slice_cell {H : Type} {enc : TypeId × Value → H} {W : World} {n : Nat} {c0 : Value} {y : DataW H × List MemPlace} (h : DataW.trod enc Try.prog W 0 (fun _ => true) true n 22 [c0] = some y) : ∃ a len cap, c0 = .slice a len cap := by
  rcases open_slice Try.underlying22 h with ⟨hcs, hx⟩ | ⟨a, len, cap, m, n, D, Pl, hcs, _, hl, hm, hmm, hx, hall⟩
  · simp only [List.cons.injEq, and_true] at hcs
    exact ⟨_, _, _, hcs⟩
  · simp only [List.cons.injEq, and_true] at hcs
    exact ⟨_, _, _, hcs⟩

set_option maxRecDepth 100000 in
set_option maxHeartbeats 4000000 in
theorem open_cf {H : Type} {enc : TypeId × Value → H} {W : World} {r : Reach} {b0 : Nat} {v : Value} {d : DataW H} {q : List MemPlace} (hv : Value.okWide Try.prog W r b0 24 v)
    (h : DataW.Trod enc Try.prog W 0 (fun _ => true) true 24 v d q) : ∃ c : Cf, v = .agg c.arr := by
  obtain ⟨cs, rfl, hcs⟩ := okWide_struct Try.underlying24 hv
  rw [cells14] at hcs
  obtain ⟨fuel, hf⟩ := h
  obtain ⟨l⟩ := cs
  match l, hcs with
  | [c0, c1, c2, c3, c4, c5, c6, c7, c8, c9, c10, c11, c12, c13], _ =>
    obtain ⟨xs, n, _, _, hl, hlen, hg⟩ := DataW.trod_struct Try.underlying24 hf
    match xs, hlen with
    | [y0, y1, y2, y3, y4, y5, y6, y7, y8, y9, y10, y11, y12, y13], _ =>
      have s0 : DataW.trod enc Try.prog W 0 (fun _ => true) true n 3 ((List.drop 0 [c0, c1, c2, c3, c4, c5, c6, c7, c8, c9, c10, c11, c12, c13]).take (Try.prog.cellsOf 3)) = ([y0, y1, y2, y3, y4, y5, y6, y7, y8, y9, y10, y11, y12, y13] : List (DataW H × List MemPlace))[0]? := hg 0 _ rfl
      rw [cellsInt] at s0
      have t0 : DataW.trod enc Try.prog W 0 (fun _ => true) true n 3 [c0] = some y0 := s0
      clear s0
      have s1 : DataW.trod enc Try.prog W 0 (fun _ => true) true n 3 ((List.drop 1 [c0, c1, c2, c3, c4, c5, c6, c7, c8, c9, c10, c11, c12, c13]).take (Try.prog.cellsOf 3)) = ([y0, y1, y2, y3, y4, y5, y6, y7, y8, y9, y10, y11, y12, y13] : List (DataW H × List MemPlace))[1]? := hg 1 _ rfl
      rw [cellsInt] at s1
      have t1 : DataW.trod enc Try.prog W 0 (fun _ => true) true n 3 [c1] = some y1 := s1
      clear s1
      have s2 : DataW.trod enc Try.prog W 0 (fun _ => true) true n 3 ((List.drop 2 [c0, c1, c2, c3, c4, c5, c6, c7, c8, c9, c10, c11, c12, c13]).take (Try.prog.cellsOf 3)) = ([y0, y1, y2, y3, y4, y5, y6, y7, y8, y9, y10, y11, y12, y13] : List (DataW H × List MemPlace))[2]? := hg 2 _ rfl
      rw [cellsInt] at s2
      have t2 : DataW.trod enc Try.prog W 0 (fun _ => true) true n 3 [c2] = some y2 := s2
      clear s2
      have s3 : DataW.trod enc Try.prog W 0 (fun _ => true) true n 3 ((List.drop 3 [c0, c1, c2, c3, c4, c5, c6, c7, c8, c9, c10, c11, c12, c13]).take (Try.prog.cellsOf 3)) = ([y0, y1, y2, y3, y4, y5, y6, y7, y8, y9, y10, y11, y12, y13] : List (DataW H × List MemPlace))[3]? := hg 3 _ rfl
      rw [cellsInt] at s3
      have t3 : DataW.trod enc Try.prog W 0 (fun _ => true) true n 3 [c3] = some y3 := s3
      clear s3
      have s4 : DataW.trod enc Try.prog W 0 (fun _ => true) true n 3 ((List.drop 4 [c0, c1, c2, c3, c4, c5, c6, c7, c8, c9, c10, c11, c12, c13]).take (Try.prog.cellsOf 3)) = ([y0, y1, y2, y3, y4, y5, y6, y7, y8, y9, y10, y11, y12, y13] : List (DataW H × List MemPlace))[4]? := hg 4 _ rfl
      rw [cellsInt] at s4
      have t4 : DataW.trod enc Try.prog W 0 (fun _ => true) true n 3 [c4] = some y4 := s4
      clear s4
      have s5 : DataW.trod enc Try.prog W 0 (fun _ => true) true n 3 ((List.drop 5 [c0, c1, c2, c3, c4, c5, c6, c7, c8, c9, c10, c11, c12, c13]).take (Try.prog.cellsOf 3)) = ([y0, y1, y2, y3, y4, y5, y6, y7, y8, y9, y10, y11, y12, y13] : List (DataW H × List MemPlace))[5]? := hg 5 _ rfl
      rw [cellsInt] at s5
      have t5 : DataW.trod enc Try.prog W 0 (fun _ => true) true n 3 [c5] = some y5 := s5
      clear s5
      have s6 : DataW.trod enc Try.prog W 0 (fun _ => true) true n 3 ((List.drop 6 [c0, c1, c2, c3, c4, c5, c6, c7, c8, c9, c10, c11, c12, c13]).take (Try.prog.cellsOf 3)) = ([y0, y1, y2, y3, y4, y5, y6, y7, y8, y9, y10, y11, y12, y13] : List (DataW H × List MemPlace))[6]? := hg 6 _ rfl
      rw [cellsInt] at s6
      have t6 : DataW.trod enc Try.prog W 0 (fun _ => true) true n 3 [c6] = some y6 := s6
      clear s6
      have s7 : DataW.trod enc Try.prog W 0 (fun _ => true) true n 3 ((List.drop 7 [c0, c1, c2, c3, c4, c5, c6, c7, c8, c9, c10, c11, c12, c13]).take (Try.prog.cellsOf 3)) = ([y0, y1, y2, y3, y4, y5, y6, y7, y8, y9, y10, y11, y12, y13] : List (DataW H × List MemPlace))[7]? := hg 7 _ rfl
      rw [cellsInt] at s7
      have t7 : DataW.trod enc Try.prog W 0 (fun _ => true) true n 3 [c7] = some y7 := s7
      clear s7
      have s8 : DataW.trod enc Try.prog W 0 (fun _ => true) true n 3 ((List.drop 8 [c0, c1, c2, c3, c4, c5, c6, c7, c8, c9, c10, c11, c12, c13]).take (Try.prog.cellsOf 3)) = ([y0, y1, y2, y3, y4, y5, y6, y7, y8, y9, y10, y11, y12, y13] : List (DataW H × List MemPlace))[8]? := hg 8 _ rfl
      rw [cellsInt] at s8
      have t8 : DataW.trod enc Try.prog W 0 (fun _ => true) true n 3 [c8] = some y8 := s8
      clear s8
      have s9 : DataW.trod enc Try.prog W 0 (fun _ => true) true n 3 ((List.drop 9 [c0, c1, c2, c3, c4, c5, c6, c7, c8, c9, c10, c11, c12, c13]).take (Try.prog.cellsOf 3)) = ([y0, y1, y2, y3, y4, y5, y6, y7, y8, y9, y10, y11, y12, y13] : List (DataW H × List MemPlace))[9]? := hg 9 _ rfl
      rw [cellsInt] at s9
      have t9 : DataW.trod enc Try.prog W 0 (fun _ => true) true n 3 [c9] = some y9 := s9
      clear s9
      have s10 : DataW.trod enc Try.prog W 0 (fun _ => true) true n 3 ((List.drop 10 [c0, c1, c2, c3, c4, c5, c6, c7, c8, c9, c10, c11, c12, c13]).take (Try.prog.cellsOf 3)) = ([y0, y1, y2, y3, y4, y5, y6, y7, y8, y9, y10, y11, y12, y13] : List (DataW H × List MemPlace))[10]? := hg 10 _ rfl
      rw [cellsInt] at s10
      have t10 : DataW.trod enc Try.prog W 0 (fun _ => true) true n 3 [c10] = some y10 := s10
      clear s10
      have s11 : DataW.trod enc Try.prog W 0 (fun _ => true) true n 3 ((List.drop 11 [c0, c1, c2, c3, c4, c5, c6, c7, c8, c9, c10, c11, c12, c13]).take (Try.prog.cellsOf 3)) = ([y0, y1, y2, y3, y4, y5, y6, y7, y8, y9, y10, y11, y12, y13] : List (DataW H × List MemPlace))[11]? := hg 11 _ rfl
      rw [cellsInt] at s11
      have t11 : DataW.trod enc Try.prog W 0 (fun _ => true) true n 3 [c11] = some y11 := s11
      clear s11
      have s12 : DataW.trod enc Try.prog W 0 (fun _ => true) true n 3 ((List.drop 12 [c0, c1, c2, c3, c4, c5, c6, c7, c8, c9, c10, c11, c12, c13]).take (Try.prog.cellsOf 3)) = ([y0, y1, y2, y3, y4, y5, y6, y7, y8, y9, y10, y11, y12, y13] : List (DataW H × List MemPlace))[12]? := hg 12 _ rfl
      rw [cellsInt] at s12
      have t12 : DataW.trod enc Try.prog W 0 (fun _ => true) true n 3 [c12] = some y12 := s12
      clear s12
      have s13 : DataW.trod enc Try.prog W 0 (fun _ => true) true n 22 ((List.drop 13 [c0, c1, c2, c3, c4, c5, c6, c7, c8, c9, c10, c11, c12, c13]).take (Try.prog.cellsOf 22)) = ([y0, y1, y2, y3, y4, y5, y6, y7, y8, y9, y10, y11, y12, y13] : List (DataW H × List MemPlace))[13]? := hg 13 _ rfl
      rw [cellsSl] at s13
      have t13 : DataW.trod enc Try.prog W 0 (fun _ => true) true n 22 [c13] = some y13 := s13
      clear s13
      obtain ⟨a0, rfl, i0⟩ := int_cell t0
      obtain ⟨a1, rfl, i1⟩ := int_cell t1
      obtain ⟨a2, rfl, i2⟩ := int_cell t2
      obtain ⟨a3, rfl, i3⟩ := int_cell t3
      obtain ⟨a4, rfl, i4⟩ := int_cell t4
      obtain ⟨a5, rfl, i5⟩ := int_cell t5
      obtain ⟨a6, rfl, i6⟩ := int_cell t6
      obtain ⟨a7, rfl, i7⟩ := int_cell t7
      obtain ⟨a8, rfl, i8⟩ := int_cell t8
      obtain ⟨a9, rfl, i9⟩ := int_cell t9
      obtain ⟨a10, rfl, i10⟩ := int_cell t10
      obtain ⟨a11, rfl, i11⟩ := int_cell t11
      obtain ⟨a12, rfl, i12⟩ := int_cell t12
      obtain ⟨pa, pn, pc, rfl⟩ := slice_cell t13
      exact ⟨⟨a0, a1, a2, a3, a4, a5, a6, a7, a8, a9, a10, a11, a12, pa, pn, pc⟩, rfl⟩

set_option maxRecDepth 100000 in
theorem open_ro {H : Type} {enc : TypeId × Value → H} {W : World} {r : Reach} {b0 : Nat} {v : Value} {d : DataW H} {q : List MemPlace} (hv : Value.okWide Try.prog W r b0 32 v)
    (h : DataW.Trod enc Try.prog W 0 (fun _ => true) true 32 v d q) : ∃ r : Ro, v = .agg r.arr := by
  obtain ⟨cs, rfl, hcs⟩ := okWide_struct Try.underlying32 hv
  rw [cells4r] at hcs
  obtain ⟨fuel, hf⟩ := h
  obtain ⟨l⟩ := cs
  match l, hcs with
  | [c0, c1, c2, c3], _ =>
    obtain ⟨xs, n, _, _, hl, hlen, hg⟩ := DataW.trod_struct Try.underlying32 hf
    match xs, hlen with
    | [y0, y1, y2, y3], _ =>
      have s0 : DataW.trod enc Try.prog W 0 (fun _ => true) true n 3 ((List.drop 0 [c0, c1, c2, c3]).take (Try.prog.cellsOf 3)) = ([y0, y1, y2, y3] : List (DataW H × List MemPlace))[0]? := hg 0 _ rfl
      rw [cellsInt] at s0
      have t0 : DataW.trod enc Try.prog W 0 (fun _ => true) true n 3 [c0] = some y0 := s0
      clear s0
      have s1 : DataW.trod enc Try.prog W 0 (fun _ => true) true n 3 ((List.drop 1 [c0, c1, c2, c3]).take (Try.prog.cellsOf 3)) = ([y0, y1, y2, y3] : List (DataW H × List MemPlace))[1]? := hg 1 _ rfl
      rw [cellsInt] at s1
      have t1 : DataW.trod enc Try.prog W 0 (fun _ => true) true n 3 [c1] = some y1 := s1
      clear s1
      have s2 : DataW.trod enc Try.prog W 0 (fun _ => true) true n 3 ((List.drop 2 [c0, c1, c2, c3]).take (Try.prog.cellsOf 3)) = ([y0, y1, y2, y3] : List (DataW H × List MemPlace))[2]? := hg 2 _ rfl
      rw [cellsInt] at s2
      have t2 : DataW.trod enc Try.prog W 0 (fun _ => true) true n 3 [c2] = some y2 := s2
      clear s2
      have s3 : DataW.trod enc Try.prog W 0 (fun _ => true) true n 4 ((List.drop 3 [c0, c1, c2, c3]).take (Try.prog.cellsOf 4)) = ([y0, y1, y2, y3] : List (DataW H × List MemPlace))[3]? := hg 3 _ rfl
      rw [cellsBool] at s3
      have t3 : DataW.trod enc Try.prog W 0 (fun _ => true) true n 4 [c3] = some y3 := s3
      clear s3
      obtain ⟨a0, rfl, i0⟩ := int_cell t0
      obtain ⟨a1, rfl, i1⟩ := int_cell t1
      obtain ⟨a2, rfl, i2⟩ := int_cell t2
      obtain ⟨b3, e3, _⟩ := DataW.trod_bool Try.underlying4 t3
      simp only [List.cons.injEq, and_true] at e3
      subst e3
      exact ⟨⟨a0, a1, a2, b3⟩, rfl⟩

section
variable {H : Type} {enc : TypeId × Value → H} {W : World} {r0 r1 r2 : Reach} {b0 b1 b2 : Nat} {v0 v1 v2 : Value} {d0 d1 d2 : DataW H} {q0 q1 q2 : List MemPlace}
theorem tells_all (k0 : Value.okWide Try.prog W r0 b0 24 v0) (h0 : DataW.Trod enc Try.prog W 0 (fun _ => true) true 24 v0 d0 q0) (k1 : Value.okWide Try.prog W r1 b1 30 v1) (h1 : DataW.Trod enc Try.prog W 0 (fun _ => true) true 30 v1 d1 q1) (k2 : Value.okWide Try.prog W r2 b2 32 v2) (h2 : DataW.Trod enc Try.prog W 0 (fun _ => true) true 32 v2 d2 q2) :
    Calls Try.prog 3 #[v0, v1, v2] W fun e w' => e = .returned (.bool true) ∧ Below W.heap.size W w' := by
  obtain ⟨c, rfl⟩ := open_cf k0 h0
  obtain ⟨p, rfl, _⟩ := open_pk k1 h1
  obtain ⟨r, rfl⟩ := open_ro k2 h2
  exact tells_any c p r W
theorem starts_all (k0 : Value.okWide Try.prog W r0 b0 24 v0) (h0 : DataW.Trod enc Try.prog W 0 (fun _ => true) true 24 v0 d0 q0) (k1 : Value.okWide Try.prog W r1 b1 30 v1) (h1 : DataW.Trod enc Try.prog W 0 (fun _ => true) true 30 v1 d1 q1) (k2 : Value.okWide Try.prog W r2 b2 32 v2) (h2 : DataW.Trod enc Try.prog W 0 (fun _ => true) true 32 v2 d2 q2) :
    Calls Try.prog 4 #[v0, v1, v2] W fun e w' => e = .returned (.bool true) ∧ Below W.heap.size W w' := by
  obtain ⟨c, rfl⟩ := open_cf k0 h0
  obtain ⟨p, rfl, _⟩ := open_pk k1 h1
  obtain ⟨r, rfl⟩ := open_ro k2 h2
  exact starts_any c p r W
theorem late_all (n : Int) (k0 : Value.okWide Try.prog W r0 b0 24 v0) (h0 : DataW.Trod enc Try.prog W 0 (fun _ => true) true 24 v0 d0 q0) (k1 : Value.okWide Try.prog W r1 b1 30 v1) (h1 : DataW.Trod enc Try.prog W 0 (fun _ => true) true 30 v1 d1 q1) (k2 : Value.okWide Try.prog W r2 b2 32 v2) (h2 : DataW.Trod enc Try.prog W 0 (fun _ => true) true 32 v2 d2 q2) :
    Calls Try.prog 5 #[v0, v1, v2, .int .i64 n] W fun e w' => e = .returned (.bool true) ∧ Below W.heap.size W w' := by
  obtain ⟨c, rfl⟩ := open_cf k0 h0
  obtain ⟨p, rfl, _⟩ := open_pk k1 h1
  obtain ⟨r, rfl⟩ := open_ro k2 h2
  exact late_any c p r n W
end

end Go.Proofs.Ytnloliedmdjakaa.Ad
