/- A call as a value: its fields; how it lies, and how it reads as an argument; an identity likewise. No function of the program is spoken of here. -/
import Derived.Test.YtncdiggejofbbaaGreatDoorArgI
namespace Go.Proofs.YtncdiggejofbbaaGreatDoor.Cl
open Go.RowKit Go.Deep Go.ChangeShapes Go.WideShapes
set_option linter.unusedVariables false
set_option maxRecDepth 20000
set_option linter.unusedSimpArgs false

/-- a call -/
structure Cl where
  (n i s to pr att st se re : Int) (co : Bool) (cd va tr : Int)
def Cl.arr (c : Cl) : Array Value :=
  #[.int .i64 c.n, .int .i64 c.i, .int .i64 c.s, .int .i64 c.to, .int .i64 c.pr, .int .i64 c.att, .int .i64 c.st, .int .i64 c.se, .int .i64 c.re, .bool c.co, .int .i64 c.cd, .int .i64 c.va, .int .i64 c.tr]
def zero : Cl := ⟨0, 0, 0, 0, 0, 0, 0, 0, 0, false, 0, 0, 0⟩
structure Nm where
  (n i s : Int)
def encI (a : Nm) : List Value := [.int .i64 a.n, .int .i64 a.i, .int .i64 a.s]
def encC (c : Cl) : List Value := [.int .i64 c.n, .int .i64 c.i, .int .i64 c.s, .int .i64 c.to, .int .i64 c.pr, .int .i64 c.att, .int .i64 c.st, .int .i64 c.se, .int .i64 c.re, .bool c.co, .int .i64 c.cd, .int .i64 c.va, .int .i64 c.tr]
theorem encC_len (c : Cl) : (encC c).length = 13 := rfl
instance : Inhabited Cl := ⟨zero⟩
def okC (c : Cl) : Prop := -9223372036854775808 ≤ c.att ∧ c.att ≤ 9223372036854775807
theorem int_in {H : Type} {en : TypeId × Value → H} {W : World} {n : Nat} {c0 : Value} {y : DataW H × List MemPlace} (h : DataW.trod en Tryz.prog W 0 (fun _ => true) true n 3 [c0] = some y) : ∃ a : Int, c0 = .int .i64 a ∧ -9223372036854775808 ≤ a ∧ a ≤ 9223372036854775807 := by
  obtain ⟨a, h0, _, w0⟩ := DataW.trod_int Tryz.underlying3 h
  simp only [List.cons.injEq, and_true] at h0
  exact ⟨a, h0, Args.i64_of w0⟩
theorem bool_in {H : Type} {enc : TypeId × Value → H} {W : World} {n : Nat} {c0 : Value} {y : DataW H × List MemPlace} (h : DataW.trod enc Tryz.prog W 0 (fun _ => true) true n 4 [c0] = some y) : ∃ b : Bool, c0 = .bool b := by
  obtain ⟨b, e, _⟩ := DataW.trod_bool Tryz.underlying4 h
  simp only [List.cons.injEq, and_true] at e
  exact ⟨b, e⟩
/-- a struct as an argument, by how its cells read -/
theorem open_st {α H : Type} {en : TypeId × Value → H} {P : Program} {W : World} {T : TypeId} {k : Nat} {enc : α → List Value} {ok : α → Prop} {fs} (hu : P.underlying T = some (.struct fs)) (hc : P.cellsOf T = k) (hE : Args.Reads P T k enc ok)
    {r : Reach} {b0 : Nat} {v : Value} {d : DataW H} {q : List MemPlace} (hv : Value.okWide P W r b0 T v) (h : DataW.Trod en P W 0 (fun _ => true) true T v d q) : ∃ a, v = .agg (enc a).toArray ∧ ok a := by
  obtain ⟨cs, rfl, hcs⟩ := okWide_struct hu hv
  obtain ⟨fuel, hf⟩ := h
  obtain ⟨a, ha, hok⟩ := hE (cs := cs.toList) hf (by simpa using hcs.trans hc)
  exact ⟨a, by rw [← ha], hok⟩

set_option maxRecDepth 100000 in
theorem rd_id : Args.Reads Tryz.prog 26 3 encI (fun _ => True) := by
  intro H en W n cs y hf hl
  match cs, hl with
  | [c0, c1, c2], _ =>
    obtain ⟨xs, m, _, _, hl, hlen, hg⟩ := DataW.trod_struct Tryz.underlying26 hf
    match xs, hlen with
    | [y0, y1, y2], _ =>
      have s0 : DataW.trod en Tryz.prog W 0 (fun _ => true) true m 3 ((List.drop 0 [c0, c1, c2]).take (Tryz.prog.cellsOf 3)) = ([y0, y1, y2] : List (DataW H × List MemPlace))[0]? := hg 0 _ rfl
      rw [show Tryz.prog.cellsOf 3 = 1 by kernel_rfl] at s0
      have t0 : DataW.trod en Tryz.prog W 0 (fun _ => true) true m 3 [c0] = some y0 := s0
      clear s0
      have s1 : DataW.trod en Tryz.prog W 0 (fun _ => true) true m 3 ((List.drop 1 [c0, c1, c2]).take (Tryz.prog.cellsOf 3)) = ([y0, y1, y2] : List (DataW H × List MemPlace))[1]? := hg 1 _ rfl
      rw [show Tryz.prog.cellsOf 3 = 1 by kernel_rfl] at s1
      have t1 : DataW.trod en Tryz.prog W 0 (fun _ => true) true m 3 [c1] = some y1 := s1
      clear s1
      have s2 : DataW.trod en Tryz.prog W 0 (fun _ => true) true m 3 ((List.drop 2 [c0, c1, c2]).take (Tryz.prog.cellsOf 3)) = ([y0, y1, y2] : List (DataW H × List MemPlace))[2]? := hg 2 _ rfl
      rw [show Tryz.prog.cellsOf 3 = 1 by kernel_rfl] at s2
      have t2 : DataW.trod en Tryz.prog W 0 (fun _ => true) true m 3 [c2] = some y2 := s2
      clear s2
      obtain ⟨a0, rfl, i0⟩ := int_in t0
      obtain ⟨a1, rfl, i1⟩ := int_in t1
      obtain ⟨a2, rfl, i2⟩ := int_in t2
      exact ⟨⟨a0, a1, a2⟩, rfl, trivial⟩

set_option maxRecDepth 100000 in
theorem rd_rc : Args.Reads Tryz.prog 33 13 encC okC := by
  intro H en W n cs y hf hl
  match cs, hl with
  | [c0, c1, c2, c3, c4, c5, c6, c7, c8, c9, c10, c11, c12], _ =>
    obtain ⟨xs, m, _, _, hl, hlen, hg⟩ := DataW.trod_struct Tryz.underlying33 hf
    match xs, hlen with
    | [y0, y1, y2, y3, y4, y5, y6, y7, y8, y9, y10], _ =>
      have s0 : DataW.trod en Tryz.prog W 0 (fun _ => true) true m 26 ((List.drop 0 [c0, c1, c2, c3, c4, c5, c6, c7, c8, c9, c10, c11, c12]).take (Tryz.prog.cellsOf 26)) = ([y0, y1, y2, y3, y4, y5, y6, y7, y8, y9, y10] : List (DataW H × List MemPlace))[0]? := hg 0 _ rfl
      rw [show Tryz.prog.cellsOf 26 = 3 by kernel_rfl] at s0
      have t0 : DataW.trod en Tryz.prog W 0 (fun _ => true) true m 26 [c0, c1, c2] = some y0 := s0
      clear s0
      have s1 : DataW.trod en Tryz.prog W 0 (fun _ => true) true m 3 ((List.drop 3 [c0, c1, c2, c3, c4, c5, c6, c7, c8, c9, c10, c11, c12]).take (Tryz.prog.cellsOf 3)) = ([y0, y1, y2, y3, y4, y5, y6, y7, y8, y9, y10] : List (DataW H × List MemPlace))[1]? := hg 1 _ rfl
      rw [show Tryz.prog.cellsOf 3 = 1 by kernel_rfl] at s1
      have t1 : DataW.trod en Tryz.prog W 0 (fun _ => true) true m 3 [c3] = some y1 := s1
      clear s1
      have s2 : DataW.trod en Tryz.prog W 0 (fun _ => true) true m 3 ((List.drop 4 [c0, c1, c2, c3, c4, c5, c6, c7, c8, c9, c10, c11, c12]).take (Tryz.prog.cellsOf 3)) = ([y0, y1, y2, y3, y4, y5, y6, y7, y8, y9, y10] : List (DataW H × List MemPlace))[2]? := hg 2 _ rfl
      rw [show Tryz.prog.cellsOf 3 = 1 by kernel_rfl] at s2
      have t2 : DataW.trod en Tryz.prog W 0 (fun _ => true) true m 3 [c4] = some y2 := s2
      clear s2
      have s3 : DataW.trod en Tryz.prog W 0 (fun _ => true) true m 3 ((List.drop 5 [c0, c1, c2, c3, c4, c5, c6, c7, c8, c9, c10, c11, c12]).take (Tryz.prog.cellsOf 3)) = ([y0, y1, y2, y3, y4, y5, y6, y7, y8, y9, y10] : List (DataW H × List MemPlace))[3]? := hg 3 _ rfl
      rw [show Tryz.prog.cellsOf 3 = 1 by kernel_rfl] at s3
      have t3 : DataW.trod en Tryz.prog W 0 (fun _ => true) true m 3 [c5] = some y3 := s3
      clear s3
      have s4 : DataW.trod en Tryz.prog W 0 (fun _ => true) true m 3 ((List.drop 6 [c0, c1, c2, c3, c4, c5, c6, c7, c8, c9, c10, c11, c12]).take (Tryz.prog.cellsOf 3)) = ([y0, y1, y2, y3, y4, y5, y6, y7, y8, y9, y10] : List (DataW H × List MemPlace))[4]? := hg 4 _ rfl
      rw [show Tryz.prog.cellsOf 3 = 1 by kernel_rfl] at s4
      have t4 : DataW.trod en Tryz.prog W 0 (fun _ => true) true m 3 [c6] = some y4 := s4
      clear s4
      have s5 : DataW.trod en Tryz.prog W 0 (fun _ => true) true m 3 ((List.drop 7 [c0, c1, c2, c3, c4, c5, c6, c7, c8, c9, c10, c11, c12]).take (Tryz.prog.cellsOf 3)) = ([y0, y1, y2, y3, y4, y5, y6, y7, y8, y9, y10] : List (DataW H × List MemPlace))[5]? := hg 5 _ rfl
      rw [show Tryz.prog.cellsOf 3 = 1 by kernel_rfl] at s5
      have t5 : DataW.trod en Tryz.prog W 0 (fun _ => true) true m 3 [c7] = some y5 := s5
      clear s5
      have s6 : DataW.trod en Tryz.prog W 0 (fun _ => true) true m 3 ((List.drop 8 [c0, c1, c2, c3, c4, c5, c6, c7, c8, c9, c10, c11, c12]).take (Tryz.prog.cellsOf 3)) = ([y0, y1, y2, y3, y4, y5, y6, y7, y8, y9, y10] : List (DataW H × List MemPlace))[6]? := hg 6 _ rfl
      rw [show Tryz.prog.cellsOf 3 = 1 by kernel_rfl] at s6
      have t6 : DataW.trod en Tryz.prog W 0 (fun _ => true) true m 3 [c8] = some y6 := s6
      clear s6
      have s7 : DataW.trod en Tryz.prog W 0 (fun _ => true) true m 4 ((List.drop 9 [c0, c1, c2, c3, c4, c5, c6, c7, c8, c9, c10, c11, c12]).take (Tryz.prog.cellsOf 4)) = ([y0, y1, y2, y3, y4, y5, y6, y7, y8, y9, y10] : List (DataW H × List MemPlace))[7]? := hg 7 _ rfl
      rw [show Tryz.prog.cellsOf 4 = 1 by kernel_rfl] at s7
      have t7 : DataW.trod en Tryz.prog W 0 (fun _ => true) true m 4 [c9] = some y7 := s7
      clear s7
      have s8 : DataW.trod en Tryz.prog W 0 (fun _ => true) true m 3 ((List.drop 10 [c0, c1, c2, c3, c4, c5, c6, c7, c8, c9, c10, c11, c12]).take (Tryz.prog.cellsOf 3)) = ([y0, y1, y2, y3, y4, y5, y6, y7, y8, y9, y10] : List (DataW H × List MemPlace))[8]? := hg 8 _ rfl
      rw [show Tryz.prog.cellsOf 3 = 1 by kernel_rfl] at s8
      have t8 : DataW.trod en Tryz.prog W 0 (fun _ => true) true m 3 [c10] = some y8 := s8
      clear s8
      have s9 : DataW.trod en Tryz.prog W 0 (fun _ => true) true m 3 ((List.drop 11 [c0, c1, c2, c3, c4, c5, c6, c7, c8, c9, c10, c11, c12]).take (Tryz.prog.cellsOf 3)) = ([y0, y1, y2, y3, y4, y5, y6, y7, y8, y9, y10] : List (DataW H × List MemPlace))[9]? := hg 9 _ rfl
      rw [show Tryz.prog.cellsOf 3 = 1 by kernel_rfl] at s9
      have t9 : DataW.trod en Tryz.prog W 0 (fun _ => true) true m 3 [c11] = some y9 := s9
      clear s9
      have s10 : DataW.trod en Tryz.prog W 0 (fun _ => true) true m 3 ((List.drop 12 [c0, c1, c2, c3, c4, c5, c6, c7, c8, c9, c10, c11, c12]).take (Tryz.prog.cellsOf 3)) = ([y0, y1, y2, y3, y4, y5, y6, y7, y8, y9, y10] : List (DataW H × List MemPlace))[10]? := hg 10 _ rfl
      rw [show Tryz.prog.cellsOf 3 = 1 by kernel_rfl] at s10
      have t10 : DataW.trod en Tryz.prog W 0 (fun _ => true) true m 3 [c12] = some y10 := s10
      clear s10
      obtain ⟨a0, e0, i0⟩ := rd_id t0 rfl
      simp only [encI, List.cons.injEq, and_true] at e0
      obtain ⟨rfl, rfl, rfl⟩ := e0
      obtain ⟨a1, rfl, i1⟩ := int_in t1
      obtain ⟨a2, rfl, i2⟩ := int_in t2
      obtain ⟨a3, rfl, i3⟩ := int_in t3
      obtain ⟨a4, rfl, i4⟩ := int_in t4
      obtain ⟨a5, rfl, i5⟩ := int_in t5
      obtain ⟨a6, rfl, i6⟩ := int_in t6
      obtain ⟨a7, rfl⟩ := bool_in t7
      obtain ⟨a8, rfl, i8⟩ := int_in t8
      obtain ⟨a9, rfl, i9⟩ := int_in t9
      obtain ⟨a10, rfl, i10⟩ := int_in t10
      exact ⟨⟨a0.n, a0.i, a0.s, a1, a2, a3, a4, a5, a6, a7, a8, a9, a10⟩, rfl, i3⟩

section
variable {H : Type} {en : TypeId × Value → H} {W : World} {r : Reach} {b0 : Nat} {v : Value} {d : DataW H} {q : List MemPlace}
theorem open_rc (hv : Value.okWide Tryz.prog W r b0 33 v) (h : DataW.Trod en Tryz.prog W 0 (fun _ => true) true 33 v d q) : ∃ c : Cl, v = .agg c.arr ∧ okC c :=
  open_st Tryz.underlying33 (by kernel_rfl) rd_rc hv h
theorem open_id (hv : Value.okWide Tryz.prog W r b0 26 v) (h : DataW.Trod en Tryz.prog W 0 (fun _ => true) true 26 v d q) : ∃ a : Nm, v = .agg #[.int .i64 a.n, .int .i64 a.i, .int .i64 a.s] :=
  (open_st Tryz.underlying26 (by kernel_rfl) rd_id hv h).imp fun _ h => h.1
end

end Go.Proofs.YtncdiggejofbbaaGreatDoor.Cl
