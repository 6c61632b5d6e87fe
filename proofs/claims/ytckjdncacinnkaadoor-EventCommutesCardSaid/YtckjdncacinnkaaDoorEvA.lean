/- How events lie as arguments. No function of the program is spoken of here. -/
import Derived.Test.YtckjdncacinnkaaDoorEv
import Derived.Test.YtckjdncacinnkaaDoorArgX
import Derived.Test.YtckjdncacinnkaaDoorKy
namespace Go.Proofs.YtckjdncacinnkaaDoor.Ev
open Go.RowKit Go.Deep Go.ChangeShapes Go.WideShapes IdM Se EvM
open Go.Proofs.YtckjdncacinnkaaDoor.Ls
set_option linter.unusedVariables false
set_option linter.unusedSimpArgs false

theorem int_in {H : Type} {en : TypeId × Value → H} {W : World} {n : Nat} {c0 : Value} {y : DataW H × List MemPlace} (h : DataW.trod en Tryd.prog W 0 (fun _ => true) true n 3 [c0] = some y) : ∃ a : Int, c0 = .int .i64 a ∧ I64 a := by
  obtain ⟨a, e, _, w⟩ := DataW.trod_int Tryd.underlying3 h
  simp only [List.cons.injEq, and_true] at e
  exact ⟨a, e, Ky.i64_of w⟩
/-- an identity's three numbers -/
def encI (x : Int × Int × Int) : List Value := [.int .i64 x.1, .int .i64 x.2.1, .int .i64 x.2.2]
def okI (x : Int × Int × Int) : Prop := I64 x.1 ∧ I64 x.2.1 ∧ I64 x.2.2
set_option maxRecDepth 100000 in
theorem rd_id : Args.Reads Tryd.prog 24 3 encI okI := by
  intro H en W n cs y hf hl
  match cs, hl with
  | [c0, c1, c2], _ =>
    obtain ⟨xs, m, _, _, hl, hlen, hg⟩ := DataW.trod_struct Tryd.underlying24 hf
    match xs, hlen with
    | [y0, y1, y2], _ =>
      have s0 : DataW.trod en Tryd.prog W 0 (fun _ => true) true m 3 ((List.drop 0 [c0, c1, c2]).take (Tryd.prog.cellsOf 3)) = ([y0, y1, y2] : List (DataW H × List MemPlace))[0]? := hg 0 _ rfl
      rw [show Tryd.prog.cellsOf 3 = 1 by kernel_rfl] at s0
      have t0 : DataW.trod en Tryd.prog W 0 (fun _ => true) true m 3 [c0] = some y0 := s0
      clear s0
      have s1 : DataW.trod en Tryd.prog W 0 (fun _ => true) true m 3 ((List.drop 1 [c0, c1, c2]).take (Tryd.prog.cellsOf 3)) = ([y0, y1, y2] : List (DataW H × List MemPlace))[1]? := hg 1 _ rfl
      rw [show Tryd.prog.cellsOf 3 = 1 by kernel_rfl] at s1
      have t1 : DataW.trod en Tryd.prog W 0 (fun _ => true) true m 3 [c1] = some y1 := s1
      clear s1
      have s2 : DataW.trod en Tryd.prog W 0 (fun _ => true) true m 3 ((List.drop 2 [c0, c1, c2]).take (Tryd.prog.cellsOf 3)) = ([y0, y1, y2] : List (DataW H × List MemPlace))[2]? := hg 2 _ rfl
      rw [show Tryd.prog.cellsOf 3 = 1 by kernel_rfl] at s2
      have t2 : DataW.trod en Tryd.prog W 0 (fun _ => true) true m 3 [c2] = some y2 := s2
      clear s2
      obtain ⟨a0, rfl, i0⟩ := int_in t0
      obtain ⟨a1, rfl, i1⟩ := int_in t1
      obtain ⟨a2, rfl, i2⟩ := int_in t2
      exact ⟨(a0, a1, a2), rfl, ⟨i0, i1, i2⟩⟩
set_option maxRecDepth 100000 in
theorem rd_key : Args.Reads Tryd.prog 26 4 Tb.encK okK := by
  intro H en W n cs y hf hl
  match cs, hl with
  | [c0, c1, c2, c3], _ =>
    obtain ⟨xs, m, _, _, hl, hlen, hg⟩ := DataW.trod_struct Tryd.underlying26 hf
    match xs, hlen with
    | [y0, y1], _ =>
      have s0 : DataW.trod en Tryd.prog W 0 (fun _ => true) true m 24 ((List.drop 0 [c0, c1, c2, c3]).take (Tryd.prog.cellsOf 24)) = ([y0, y1] : List (DataW H × List MemPlace))[0]? := hg 0 _ rfl
      rw [show Tryd.prog.cellsOf 24 = 3 by kernel_rfl] at s0
      have t0 : DataW.trod en Tryd.prog W 0 (fun _ => true) true m 24 [c0, c1, c2] = some y0 := s0
      clear s0
      have s1 : DataW.trod en Tryd.prog W 0 (fun _ => true) true m 3 ((List.drop 3 [c0, c1, c2, c3]).take (Tryd.prog.cellsOf 3)) = ([y0, y1] : List (DataW H × List MemPlace))[1]? := hg 1 _ rfl
      rw [show Tryd.prog.cellsOf 3 = 1 by kernel_rfl] at s1
      have t1 : DataW.trod en Tryd.prog W 0 (fun _ => true) true m 3 [c3] = some y1 := s1
      clear s1
      obtain ⟨a0, e0, i0⟩ := rd_id t0 rfl
      simp only [encI, List.cons.injEq, and_true] at e0
      obtain ⟨rfl, rfl, rfl⟩ := e0
      obtain ⟨a1, rfl, i1⟩ := int_in t1
      exact ⟨⟨a0.1, a0.2.1, a0.2.2, a1⟩, rfl, ⟨i0.1, i0.2.1, i0.2.2, i1⟩⟩
theorem ok_all {a0 a1 a2 a3 : Int} {a4 a5 : Ke} {a6 : Int × Int × Int} {a7 a8 a9 : Int} (i0 : I64 a0) (i1 : I64 a1) (i2 : I64 a2) (i3 : I64 a3) (i4 : okK a4) (i5 : okK a5) (i6 : okI a6) (i7 : I64 a7) (i8 : I64 a8) (i9 : I64 a9) :
    okE (⟨a0, a1, a2, a3, a4.n, a4.i, a4.s, a4.a, a5.n, a5.i, a5.s, a5.a, a6.1, a6.2.1, a6.2.2, a7, a8, a9⟩ : Ev) := by
  obtain ⟨k0, k1, k2, k3⟩ := i4
  obtain ⟨p0, p1, p2, p3⟩ := i5
  obtain ⟨r0, r1, r2⟩ := i6
  intro x hx
  simp only [Ev.ints, List.mem_cons, List.not_mem_nil, or_false] at hx
  rcases hx with rfl | rfl | rfl | rfl | rfl | rfl | rfl | rfl | rfl | rfl | rfl | rfl | rfl | rfl | rfl | rfl | rfl | rfl <;> assumption
set_option maxRecDepth 100000 in
theorem rd_ev : Args.Reads Tryd.prog 38 18 encE okE := by
  intro H en W n cs y hf hl
  match cs, hl with
  | [c0, c1, c2, c3, c4, c5, c6, c7, c8, c9, c10, c11, c12, c13, c14, c15, c16, c17], _ =>
    obtain ⟨xs, m, _, _, hl, hlen, hg⟩ := DataW.trod_struct Tryd.underlying38 hf
    match xs, hlen with
    | [y0, y1, y2, y3, y4, y5, y6, y7, y8, y9], _ =>
      have s0 : DataW.trod en Tryd.prog W 0 (fun _ => true) true m 3 ((List.drop 0 [c0, c1, c2, c3, c4, c5, c6, c7, c8, c9, c10, c11, c12, c13, c14, c15, c16, c17]).take (Tryd.prog.cellsOf 3)) = ([y0, y1, y2, y3, y4, y5, y6, y7, y8, y9] : List (DataW H × List MemPlace))[0]? := hg 0 _ rfl
      rw [show Tryd.prog.cellsOf 3 = 1 by kernel_rfl] at s0
      have t0 : DataW.trod en Tryd.prog W 0 (fun _ => true) true m 3 [c0] = some y0 := s0
      clear s0
      have s1 : DataW.trod en Tryd.prog W 0 (fun _ => true) true m 3 ((List.drop 1 [c0, c1, c2, c3, c4, c5, c6, c7, c8, c9, c10, c11, c12, c13, c14, c15, c16, c17]).take (Tryd.prog.cellsOf 3)) = ([y0, y1, y2, y3, y4, y5, y6, y7, y8, y9] : List (DataW H × List MemPlace))[1]? := hg 1 _ rfl
      rw [show Tryd.prog.cellsOf 3 = 1 by kernel_rfl] at s1
      have t1 : DataW.trod en Tryd.prog W 0 (fun _ => true) true m 3 [c1] = some y1 := s1
      clear s1
      have s2 : DataW.trod en Tryd.prog W 0 (fun _ => true) true m 3 ((List.drop 2 [c0, c1, c2, c3, c4, c5, c6, c7, c8, c9, c10, c11, c12, c13, c14, c15, c16, c17]).take (Tryd.prog.cellsOf 3)) = ([y0, y1, y2, y3, y4, y5, y6, y7, y8, y9] : List (DataW H × List MemPlace))[2]? := hg 2 _ rfl
      rw [show Tryd.prog.cellsOf 3 = 1 by kernel_rfl] at s2
      have t2 : DataW.trod en Tryd.prog W 0 (fun _ => true) true m 3 [c2] = some y2 := s2
      clear s2
      have s3 : DataW.trod en Tryd.prog W 0 (fun _ => true) true m 3 ((List.drop 3 [c0, c1, c2, c3, c4, c5, c6, c7, c8, c9, c10, c11, c12, c13, c14, c15, c16, c17]).take (Tryd.prog.cellsOf 3)) = ([y0, y1, y2, y3, y4, y5, y6, y7, y8, y9] : List (DataW H × List MemPlace))[3]? := hg 3 _ rfl
      rw [show Tryd.prog.cellsOf 3 = 1 by kernel_rfl] at s3
      have t3 : DataW.trod en Tryd.prog W 0 (fun _ => true) true m 3 [c3] = some y3 := s3
      clear s3
      have s4 : DataW.trod en Tryd.prog W 0 (fun _ => true) true m 26 ((List.drop 4 [c0, c1, c2, c3, c4, c5, c6, c7, c8, c9, c10, c11, c12, c13, c14, c15, c16, c17]).take (Tryd.prog.cellsOf 26)) = ([y0, y1, y2, y3, y4, y5, y6, y7, y8, y9] : List (DataW H × List MemPlace))[4]? := hg 4 _ rfl
      rw [show Tryd.prog.cellsOf 26 = 4 by kernel_rfl] at s4
      have t4 : DataW.trod en Tryd.prog W 0 (fun _ => true) true m 26 [c4, c5, c6, c7] = some y4 := s4
      clear s4
      have s5 : DataW.trod en Tryd.prog W 0 (fun _ => true) true m 26 ((List.drop 8 [c0, c1, c2, c3, c4, c5, c6, c7, c8, c9, c10, c11, c12, c13, c14, c15, c16, c17]).take (Tryd.prog.cellsOf 26)) = ([y0, y1, y2, y3, y4, y5, y6, y7, y8, y9] : List (DataW H × List MemPlace))[5]? := hg 5 _ rfl
      rw [show Tryd.prog.cellsOf 26 = 4 by kernel_rfl] at s5
      have t5 : DataW.trod en Tryd.prog W 0 (fun _ => true) true m 26 [c8, c9, c10, c11] = some y5 := s5
      clear s5
      have s6 : DataW.trod en Tryd.prog W 0 (fun _ => true) true m 24 ((List.drop 12 [c0, c1, c2, c3, c4, c5, c6, c7, c8, c9, c10, c11, c12, c13, c14, c15, c16, c17]).take (Tryd.prog.cellsOf 24)) = ([y0, y1, y2, y3, y4, y5, y6, y7, y8, y9] : List (DataW H × List MemPlace))[6]? := hg 6 _ rfl
      rw [show Tryd.prog.cellsOf 24 = 3 by kernel_rfl] at s6
      have t6 : DataW.trod en Tryd.prog W 0 (fun _ => true) true m 24 [c12, c13, c14] = some y6 := s6
      clear s6
      have s7 : DataW.trod en Tryd.prog W 0 (fun _ => true) true m 3 ((List.drop 15 [c0, c1, c2, c3, c4, c5, c6, c7, c8, c9, c10, c11, c12, c13, c14, c15, c16, c17]).take (Tryd.prog.cellsOf 3)) = ([y0, y1, y2, y3, y4, y5, y6, y7, y8, y9] : List (DataW H × List MemPlace))[7]? := hg 7 _ rfl
      rw [show Tryd.prog.cellsOf 3 = 1 by kernel_rfl] at s7
      have t7 : DataW.trod en Tryd.prog W 0 (fun _ => true) true m 3 [c15] = some y7 := s7
      clear s7
      have s8 : DataW.trod en Tryd.prog W 0 (fun _ => true) true m 3 ((List.drop 16 [c0, c1, c2, c3, c4, c5, c6, c7, c8, c9, c10, c11, c12, c13, c14, c15, c16, c17]).take (Tryd.prog.cellsOf 3)) = ([y0, y1, y2, y3, y4, y5, y6, y7, y8, y9] : List (DataW H × List MemPlace))[8]? := hg 8 _ rfl
      rw [show Tryd.prog.cellsOf 3 = 1 by kernel_rfl] at s8
      have t8 : DataW.trod en Tryd.prog W 0 (fun _ => true) true m 3 [c16] = some y8 := s8
      clear s8
      have s9 : DataW.trod en Tryd.prog W 0 (fun _ => true) true m 3 ((List.drop 17 [c0, c1, c2, c3, c4, c5, c6, c7, c8, c9, c10, c11, c12, c13, c14, c15, c16, c17]).take (Tryd.prog.cellsOf 3)) = ([y0, y1, y2, y3, y4, y5, y6, y7, y8, y9] : List (DataW H × List MemPlace))[9]? := hg 9 _ rfl
      rw [show Tryd.prog.cellsOf 3 = 1 by kernel_rfl] at s9
      have t9 : DataW.trod en Tryd.prog W 0 (fun _ => true) true m 3 [c17] = some y9 := s9
      clear s9
      obtain ⟨a0, rfl, i0⟩ := int_in t0
      obtain ⟨a1, rfl, i1⟩ := int_in t1
      obtain ⟨a2, rfl, i2⟩ := int_in t2
      obtain ⟨a3, rfl, i3⟩ := int_in t3
      obtain ⟨a4, e4, i4⟩ := rd_key t4 rfl
      simp only [Tb.encK, List.cons.injEq, and_true] at e4
      obtain ⟨rfl, rfl, rfl, rfl⟩ := e4
      obtain ⟨a5, e5, i5⟩ := rd_key t5 rfl
      simp only [Tb.encK, List.cons.injEq, and_true] at e5
      obtain ⟨rfl, rfl, rfl, rfl⟩ := e5
      obtain ⟨a6, e6, i6⟩ := rd_id t6 rfl
      simp only [encI, List.cons.injEq, and_true] at e6
      obtain ⟨rfl, rfl, rfl⟩ := e6
      obtain ⟨a7, rfl, i7⟩ := int_in t7
      obtain ⟨a8, rfl, i8⟩ := int_in t8
      obtain ⟨a9, rfl, i9⟩ := int_in t9
      exact ⟨(⟨a0, a1, a2, a3, a4.n, a4.i, a4.s, a4.a, a5.n, a5.i, a5.s, a5.a, a6.1, a6.2.1, a6.2.2, a7, a8, a9⟩ : Ev), rfl, ok_all i0 i1 i2 i3 i4 i5 i6 i7 i8 i9⟩

/-- what a slice that comes in is: whose capacity, and nil -/
theorem slice_in {H : Type} {en : TypeId × Value → H} {W : World} {T E : TypeId} {v : Value} {d : DataW H} {p : List MemPlace} (ht : Tryd.prog.underlying T = some (.slice E)) (h : DataW.Trod en Tryd.prog W 0 (fun _ => true) true T v d p) :
    (∀ p n c, v = .slice p n c → n ≤ c) ∧ (∀ n c, v = .slice none n c → n = 0 ∧ c = 0) := by
  obtain ⟨fuel, hf⟩ := h
  refine ⟨fun q n c e => ?_, fun n c e => ?_⟩
  · subst e
    rcases open_slice ht hf with ⟨hcs, _⟩ | ⟨a, len, cap, m, n', D, Pl, hcs, _, hle, _⟩
    · simp [Value.cells] at hcs; omega
    · simp [Value.cells] at hcs; omega
  · subst e
    rcases open_slice ht hf with ⟨hcs, _⟩ | ⟨a, len, cap, m, n', D, Pl, hcs, _, hle, _⟩
    · simp [Value.cells] at hcs; exact hcs
    · simp [Value.cells] at hcs
set_option maxRecDepth 100000 in
theorem open_evs {H : Type} {en : TypeId × Value → H} {W : World} {r : Reach} {b0 : Nat} {v : Value} {d : DataW H} {p : List MemPlace} (hv : Value.okWide Tryd.prog W r b0 22 v) (h : DataW.Trod en Tryd.prog W 0 (fun _ => true) true 22 v d p) :
    ∃ L : List Ev, Le W v L ∧ (∀ e ∈ L, okE e) ∧ (∀ p n c, v = .slice p n c → n ≤ c) ∧ (∀ n c, v = .slice none n c → n = 0 ∧ c = 0) := by
  obtain ⟨len, F, hF⟩ := Args.open_lies (k := 18) (enc := encE) (ok := okE) Tryd.underlying22 (by kernel_rfl) (by decide) (fun _ => rfl) rd_ev hv h
  obtain ⟨L, h1, _, h3⟩ := ls_lies hF
  exact ⟨L, h1, h3, slice_in Tryd.underlying22 h⟩

end Go.Proofs.YtckjdncacinnkaaDoor.Ev
