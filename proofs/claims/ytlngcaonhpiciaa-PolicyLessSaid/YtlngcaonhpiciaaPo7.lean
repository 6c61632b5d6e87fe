/- How facts lie as an argument; the laws of layer 20 at the arguments as they are handed in. -/
import Derived.Test.YtlngcaonhpiciaaPo4
import Derived.Test.YtlngcaonhpiciaaPo5
import Derived.Test.YtlngcaonhpiciaaPo6
namespace Go.Proofs.Ytlngcaonhpiciaa.Po
open Go.RowKit Go.Deep Go.ChangeShapes Go.WideShapes Ad
set_option linter.unusedVariables false
set_option linter.unusedSimpArgs false

theorem cells8 : Try.prog.cellsOf 26 = 8 := by kernel_rfl

set_option maxRecDepth 100000 in
set_option maxHeartbeats 4000000 in
theorem open_ft {H : Type} {enc : TypeId × Value → H} {W : World} {r : Reach} {b0 : Nat} {v : Value} {d : DataW H} {q : List MemPlace} (hv : Value.okWide Try.prog W r b0 26 v)
    (h : DataW.Trod enc Try.prog W 0 (fun _ => true) true 26 v d q) : ∃ f : Ft, v = .agg f.arr ∧ f.Lim := by
  obtain ⟨cs, rfl, hcs⟩ := okWide_struct Try.underlying26 hv
  rw [cells8] at hcs
  obtain ⟨fuel, hf⟩ := h
  obtain ⟨l⟩ := cs
  match l, hcs with
  | [c0, c1, c2, c3, c4, c5, c6, c7], _ =>
    obtain ⟨xs, n, _, _, hl, hlen, hg⟩ := DataW.trod_struct Try.underlying26 hf
    match xs, hlen with
    | [y0, y1, y2, y3, y4, y5, y6, y7], _ =>
      have s0 : DataW.trod enc Try.prog W 0 (fun _ => true) true n 3 ((List.drop 0 [c0, c1, c2, c3, c4, c5, c6, c7]).take (Try.prog.cellsOf 3)) = ([y0, y1, y2, y3, y4, y5, y6, y7] : List (DataW H × List MemPlace))[0]? := hg 0 _ rfl
      rw [cells_int] at s0
      have t0 : DataW.trod enc Try.prog W 0 (fun _ => true) true n 3 [c0] = some y0 := s0
      clear s0
      have s1 : DataW.trod enc Try.prog W 0 (fun _ => true) true n 3 ((List.drop 1 [c0, c1, c2, c3, c4, c5, c6, c7]).take (Try.prog.cellsOf 3)) = ([y0, y1, y2, y3, y4, y5, y6, y7] : List (DataW H × List MemPlace))[1]? := hg 1 _ rfl
      rw [cells_int] at s1
      have t1 : DataW.trod enc Try.prog W 0 (fun _ => true) true n 3 [c1] = some y1 := s1
      clear s1
      have s2 : DataW.trod enc Try.prog W 0 (fun _ => true) true n 4 ((List.drop 2 [c0, c1, c2, c3, c4, c5, c6, c7]).take (Try.prog.cellsOf 4)) = ([y0, y1, y2, y3, y4, y5, y6, y7] : List (DataW H × List MemPlace))[2]? := hg 2 _ rfl
      rw [cells_bool] at s2
      have t2 : DataW.trod enc Try.prog W 0 (fun _ => true) true n 4 [c2] = some y2 := s2
      clear s2
      have s3 : DataW.trod enc Try.prog W 0 (fun _ => true) true n 3 ((List.drop 3 [c0, c1, c2, c3, c4, c5, c6, c7]).take (Try.prog.cellsOf 3)) = ([y0, y1, y2, y3, y4, y5, y6, y7] : List (DataW H × List MemPlace))[3]? := hg 3 _ rfl
      rw [cells_int] at s3
      have t3 : DataW.trod enc Try.prog W 0 (fun _ => true) true n 3 [c3] = some y3 := s3
      clear s3
      have s4 : DataW.trod enc Try.prog W 0 (fun _ => true) true n 3 ((List.drop 4 [c0, c1, c2, c3, c4, c5, c6, c7]).take (Try.prog.cellsOf 3)) = ([y0, y1, y2, y3, y4, y5, y6, y7] : List (DataW H × List MemPlace))[4]? := hg 4 _ rfl
      rw [cells_int] at s4
      have t4 : DataW.trod enc Try.prog W 0 (fun _ => true) true n 3 [c4] = some y4 := s4
      clear s4
      have s5 : DataW.trod enc Try.prog W 0 (fun _ => true) true n 3 ((List.drop 5 [c0, c1, c2, c3, c4, c5, c6, c7]).take (Try.prog.cellsOf 3)) = ([y0, y1, y2, y3, y4, y5, y6, y7] : List (DataW H × List MemPlace))[5]? := hg 5 _ rfl
      rw [cells_int] at s5
      have t5 : DataW.trod enc Try.prog W 0 (fun _ => true) true n 3 [c5] = some y5 := s5
      clear s5
      have s6 : DataW.trod enc Try.prog W 0 (fun _ => true) true n 3 ((List.drop 6 [c0, c1, c2, c3, c4, c5, c6, c7]).take (Try.prog.cellsOf 3)) = ([y0, y1, y2, y3, y4, y5, y6, y7] : List (DataW H × List MemPlace))[6]? := hg 6 _ rfl
      rw [cells_int] at s6
      have t6 : DataW.trod enc Try.prog W 0 (fun _ => true) true n 3 [c6] = some y6 := s6
      clear s6
      have s7 : DataW.trod enc Try.prog W 0 (fun _ => true) true n 3 ((List.drop 7 [c0, c1, c2, c3, c4, c5, c6, c7]).take (Try.prog.cellsOf 3)) = ([y0, y1, y2, y3, y4, y5, y6, y7] : List (DataW H × List MemPlace))[7]? := hg 7 _ rfl
      rw [cells_int] at s7
      have t7 : DataW.trod enc Try.prog W 0 (fun _ => true) true n 3 [c7] = some y7 := s7
      clear s7
      obtain ⟨a0, rfl, i0⟩ := int_in t0
      obtain ⟨a1, rfl, i1⟩ := int_in t1
      obtain ⟨a2, rfl⟩ := bool_in t2
      obtain ⟨a3, rfl, i3⟩ := int_in t3
      obtain ⟨a4, rfl, i4⟩ := int_in t4
      obtain ⟨a5, rfl, i5⟩ := int_in t5
      obtain ⟨a6, rfl, i6⟩ := int_in t6
      obtain ⟨a7, rfl, i7⟩ := int_in t7
      exact ⟨⟨a0, a1, a2, a3, a4, a5, a6, a7⟩, rfl, i0, i1, i3, i4, i5, i6, i7⟩

section
variable {H : Type} {enc : TypeId × Value → H} {W : World} {r0 r1 : Reach} {b0 b1 : Nat} {v0 v1 : Value} {d0 d1 : DataW H} {q0 q1 : List MemPlace}
theorem decides_all (k0 : Value.okWide Try.prog W r0 b0 24 v0) (h0 : DataW.Trod enc Try.prog W 0 (fun _ => true) true 24 v0 d0 q0) (k1 : Value.okWide Try.prog W r1 b1 26 v1) (h1 : DataW.Trod enc Try.prog W 0 (fun _ => true) true 26 v1 d1 q1) :
    Calls Try.prog 3 #[v0, v1] W fun e w' => e = .returned (.bool true) ∧ Below W.heap.size W w' := by
  obtain ⟨c, rfl, _⟩ := open_cf k0 h0
  obtain ⟨f, rfl, hl⟩ := open_ft k1 h1
  exact decides_any c f hl.2.1.2 W
theorem again_all (k0 : Value.okWide Try.prog W r0 b0 24 v0) (h0 : DataW.Trod enc Try.prog W 0 (fun _ => true) true 24 v0 d0 q0) (k1 : Value.okWide Try.prog W r1 b1 26 v1) (h1 : DataW.Trod enc Try.prog W 0 (fun _ => true) true 26 v1 d1 q1) :
    Calls Try.prog 4 #[v0, v1] W fun e w' => e = .returned (.bool true) ∧ Below W.heap.size W w' := by
  obtain ⟨c, rfl, _⟩ := open_cf k0 h0
  obtain ⟨f, rfl, hl⟩ := open_ft k1 h1
  exact again_any c f hl W
theorem less_all (d t : Int) (k0 : Value.okWide Try.prog W r0 b0 24 v0) (h0 : DataW.Trod enc Try.prog W 0 (fun _ => true) true 24 v0 d0 q0) (k1 : Value.okWide Try.prog W r1 b1 26 v1) (h1 : DataW.Trod enc Try.prog W 0 (fun _ => true) true 26 v1 d1 q1) :
    Calls Try.prog 5 #[v0, v1, .int .i64 d, .int .i64 t] W fun e w' => e = .returned (.bool true) ∧ Below W.heap.size W w' := by
  obtain ⟨c, rfl, _⟩ := open_cf k0 h0
  obtain ⟨f, rfl, hl⟩ := open_ft k1 h1
  exact less_any c f d t hl W
theorem grows_all (k0 : Value.okWide Try.prog W r0 b0 24 v0) (h0 : DataW.Trod enc Try.prog W 0 (fun _ => true) true 24 v0 d0 q0) :
    Calls Try.prog 6 #[v0] W fun e w' => e = .returned (.bool true) ∧ Below W.heap.size W w' := by
  obtain ⟨c, rfl, _⟩ := open_cf k0 h0
  exact grows_any c W
end

end Go.Proofs.Ytlngcaonhpiciaa.Po
