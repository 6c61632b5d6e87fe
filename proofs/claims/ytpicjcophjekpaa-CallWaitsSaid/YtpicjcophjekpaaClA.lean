/- How calls, facts, identities and deeds lie as arguments. -/
import Derived.Test.YtpicjcophjekpaaClD
import Derived.Test.YtpicjcophjekpaaArgX
namespace Go.Proofs.Ytpicjcophjekpaa.Cl
open Go.RowKit Go.Deep Go.ChangeShapes Go.WideShapes Ad Po
set_option linter.unusedVariables false
set_option linter.unusedSimpArgs false

/-- a struct as an argument, by how its cells read -/
theorem open_st {α H : Type} {en : TypeId × Value → H} {P : Program} {W : World} {T : TypeId} {k : Nat} {enc : α → List Value} {ok : α → Prop} {fs} (hu : P.underlying T = some (.struct fs)) (hc : P.cellsOf T = k) (hE : Args.Reads P T k enc ok)
    {r : Reach} {b0 : Nat} {v : Value} {d : DataW H} {q : List MemPlace} (hv : Value.okWide P W r b0 T v) (h : DataW.Trod en P W 0 (fun _ => true) true T v d q) : ∃ a, v = .agg (enc a).toArray ∧ ok a := by
  obtain ⟨cs, rfl, hcs⟩ := okWide_struct hu hv
  obtain ⟨fuel, hf⟩ := h
  obtain ⟨a, ha, hok⟩ := hE (cs := cs.toList) hf (by simpa using hcs.trans hc)
  exact ⟨a, by rw [← ha], hok⟩

def encF (f : Ft) : List Value := [.int .i64 f.code, .int .i64 f.att, .bool f.com, .int .i64 f.push, .int .i64 f.have_, .int .i64 f.now, .int .i64 f.due, .int .i64 f.jit]
def encD (d : De) : List Value := [.int .i64 d.k, .int .i64 d.n, .int .i64 d.f.code, .int .i64 d.f.att, .bool d.f.com, .int .i64 d.f.push, .int .i64 d.f.have_, .int .i64 d.f.now, .int .i64 d.f.due, .int .i64 d.f.jit]
structure Nm where
  (n i s : Int)
def encI (a : Nm) : List Value := [.int .i64 a.n, .int .i64 a.i, .int .i64 a.s]
def encC (c : Cl) : List Value := [.int .i64 c.n, .int .i64 c.i, .int .i64 c.s, .int .i64 c.to, .int .i64 c.pr, .int .i64 c.att, .int .i64 c.st, .int .i64 c.se, .int .i64 c.re, .bool c.co, .int .i64 c.cd, .int .i64 c.va, .int .i64 c.tr]
instance : Inhabited De := ⟨⟨0, 0, ⟨0, 0, false, 0, 0, 0, 0, 0⟩⟩⟩
def okD (d : De) : Prop := True
def okC (c : Cl) : Prop := Wd c.att

set_option maxRecDepth 100000 in
theorem rd_ft : Args.Reads Try.prog 35 8 encF Ft.Lim := by
  intro H en W n cs y hf hl
  match cs, hl with
  | [c0, c1, c2, c3, c4, c5, c6, c7], _ =>
    obtain ⟨xs, m, _, _, hl, hlen, hg⟩ := DataW.trod_struct Try.underlying35 hf
    match xs, hlen with
    | [y0, y1, y2, y3, y4, y5, y6, y7], _ =>
      have s0 : DataW.trod en Try.prog W 0 (fun _ => true) true m 3 ((List.drop 0 [c0, c1, c2, c3, c4, c5, c6, c7]).take (Try.prog.cellsOf 3)) = ([y0, y1, y2, y3, y4, y5, y6, y7] : List (DataW H × List MemPlace))[0]? := hg 0 _ rfl
      rw [show Try.prog.cellsOf 3 = 1 by kernel_rfl] at s0
      have t0 : DataW.trod en Try.prog W 0 (fun _ => true) true m 3 [c0] = some y0 := s0
      clear s0
      have s1 : DataW.trod en Try.prog W 0 (fun _ => true) true m 3 ((List.drop 1 [c0, c1, c2, c3, c4, c5, c6, c7]).take (Try.prog.cellsOf 3)) = ([y0, y1, y2, y3, y4, y5, y6, y7] : List (DataW H × List MemPlace))[1]? := hg 1 _ rfl
      rw [show Try.prog.cellsOf 3 = 1 by kernel_rfl] at s1
      have t1 : DataW.trod en Try.prog W 0 (fun _ => true) true m 3 [c1] = some y1 := s1
      clear s1
      have s2 : DataW.trod en Try.prog W 0 (fun _ => true) true m 4 ((List.drop 2 [c0, c1, c2, c3, c4, c5, c6, c7]).take (Try.prog.cellsOf 4)) = ([y0, y1, y2, y3, y4, y5, y6, y7] : List (DataW H × List MemPlace))[2]? := hg 2 _ rfl
      rw [show Try.prog.cellsOf 4 = 1 by kernel_rfl] at s2
      have t2 : DataW.trod en Try.prog W 0 (fun _ => true) true m 4 [c2] = some y2 := s2
      clear s2
      have s3 : DataW.trod en Try.prog W 0 (fun _ => true) true m 3 ((List.drop 3 [c0, c1, c2, c3, c4, c5, c6, c7]).take (Try.prog.cellsOf 3)) = ([y0, y1, y2, y3, y4, y5, y6, y7] : List (DataW H × List MemPlace))[3]? := hg 3 _ rfl
      rw [show Try.prog.cellsOf 3 = 1 by kernel_rfl] at s3
      have t3 : DataW.trod en Try.prog W 0 (fun _ => true) true m 3 [c3] = some y3 := s3
      clear s3
      have s4 : DataW.trod en Try.prog W 0 (fun _ => true) true m 3 ((List.drop 4 [c0, c1, c2, c3, c4, c5, c6, c7]).take (Try.prog.cellsOf 3)) = ([y0, y1, y2, y3, y4, y5, y6, y7] : List (DataW H × List MemPlace))[4]? := hg 4 _ rfl
      rw [show Try.prog.cellsOf 3 = 1 by kernel_rfl] at s4
      have t4 : DataW.trod en Try.prog W 0 (fun _ => true) true m 3 [c4] = some y4 := s4
      clear s4
      have s5 : DataW.trod en Try.prog W 0 (fun _ => true) true m 3 ((List.drop 5 [c0, c1, c2, c3, c4, c5, c6, c7]).take (Try.prog.cellsOf 3)) = ([y0, y1, y2, y3, y4, y5, y6, y7] : List (DataW H × List MemPlace))[5]? := hg 5 _ rfl
      rw [show Try.prog.cellsOf 3 = 1 by kernel_rfl] at s5
      have t5 : DataW.trod en Try.prog W 0 (fun _ => true) true m 3 [c5] = some y5 := s5
      clear s5
      have s6 : DataW.trod en Try.prog W 0 (fun _ => true) true m 3 ((List.drop 6 [c0, c1, c2, c3, c4, c5, c6, c7]).take (Try.prog.cellsOf 3)) = ([y0, y1, y2, y3, y4, y5, y6, y7] : List (DataW H × List MemPlace))[6]? := hg 6 _ rfl
      rw [show Try.prog.cellsOf 3 = 1 by kernel_rfl] at s6
      have t6 : DataW.trod en Try.prog W 0 (fun _ => true) true m 3 [c6] = some y6 := s6
      clear s6
      have s7 : DataW.trod en Try.prog W 0 (fun _ => true) true m 3 ((List.drop 7 [c0, c1, c2, c3, c4, c5, c6, c7]).take (Try.prog.cellsOf 3)) = ([y0, y1, y2, y3, y4, y5, y6, y7] : List (DataW H × List MemPlace))[7]? := hg 7 _ rfl
      rw [show Try.prog.cellsOf 3 = 1 by kernel_rfl] at s7
      have t7 : DataW.trod en Try.prog W 0 (fun _ => true) true m 3 [c7] = some y7 := s7
      clear s7
      obtain ⟨a0, rfl, i0⟩ := Ad.int_in t0
      obtain ⟨a1, rfl, i1⟩ := Ad.int_in t1
      obtain ⟨a2, rfl⟩ := Ad.bool_in t2
      obtain ⟨a3, rfl, i3⟩ := Ad.int_in t3
      obtain ⟨a4, rfl, i4⟩ := Ad.int_in t4
      obtain ⟨a5, rfl, i5⟩ := Ad.int_in t5
      obtain ⟨a6, rfl, i6⟩ := Ad.int_in t6
      obtain ⟨a7, rfl, i7⟩ := Ad.int_in t7
      exact ⟨⟨a0, a1, a2, a3, a4, a5, a6, a7⟩, rfl, ⟨i0, i1, i3, i4, i5, i6, i7⟩⟩
set_option maxRecDepth 100000 in
theorem rd_id : Args.Reads Try.prog 23 3 encI (fun _ => True) := by
  intro H en W n cs y hf hl
  match cs, hl with
  | [c0, c1, c2], _ =>
    obtain ⟨xs, m, _, _, hl, hlen, hg⟩ := DataW.trod_struct Try.underlying23 hf
    match xs, hlen with
    | [y0, y1, y2], _ =>
      have s0 : DataW.trod en Try.prog W 0 (fun _ => true) true m 3 ((List.drop 0 [c0, c1, c2]).take (Try.prog.cellsOf 3)) = ([y0, y1, y2] : List (DataW H × List MemPlace))[0]? := hg 0 _ rfl
      rw [show Try.prog.cellsOf 3 = 1 by kernel_rfl] at s0
      have t0 : DataW.trod en Try.prog W 0 (fun _ => true) true m 3 [c0] = some y0 := s0
      clear s0
      have s1 : DataW.trod en Try.prog W 0 (fun _ => true) true m 3 ((List.drop 1 [c0, c1, c2]).take (Try.prog.cellsOf 3)) = ([y0, y1, y2] : List (DataW H × List MemPlace))[1]? := hg 1 _ rfl
      rw [show Try.prog.cellsOf 3 = 1 by kernel_rfl] at s1
      have t1 : DataW.trod en Try.prog W 0 (fun _ => true) true m 3 [c1] = some y1 := s1
      clear s1
      have s2 : DataW.trod en Try.prog W 0 (fun _ => true) true m 3 ((List.drop 2 [c0, c1, c2]).take (Try.prog.cellsOf 3)) = ([y0, y1, y2] : List (DataW H × List MemPlace))[2]? := hg 2 _ rfl
      rw [show Try.prog.cellsOf 3 = 1 by kernel_rfl] at s2
      have t2 : DataW.trod en Try.prog W 0 (fun _ => true) true m 3 [c2] = some y2 := s2
      clear s2
      obtain ⟨a0, rfl, i0⟩ := Ad.int_in t0
      obtain ⟨a1, rfl, i1⟩ := Ad.int_in t1
      obtain ⟨a2, rfl, i2⟩ := Ad.int_in t2
      exact ⟨⟨a0, a1, a2⟩, rfl, trivial⟩
set_option maxRecDepth 100000 in
theorem rd_de : Args.Reads Try.prog 37 10 encD okD := by
  intro H en W n cs y hf hl
  match cs, hl with
  | [c0, c1, c2, c3, c4, c5, c6, c7, c8, c9], _ =>
    obtain ⟨xs, m, _, _, hl, hlen, hg⟩ := DataW.trod_struct Try.underlying37 hf
    match xs, hlen with
    | [y0, y1, y2], _ =>
      have s0 : DataW.trod en Try.prog W 0 (fun _ => true) true m 3 ((List.drop 0 [c0, c1, c2, c3, c4, c5, c6, c7, c8, c9]).take (Try.prog.cellsOf 3)) = ([y0, y1, y2] : List (DataW H × List MemPlace))[0]? := hg 0 _ rfl
      rw [show Try.prog.cellsOf 3 = 1 by kernel_rfl] at s0
      have t0 : DataW.trod en Try.prog W 0 (fun _ => true) true m 3 [c0] = some y0 := s0
      clear s0
      have s1 : DataW.trod en Try.prog W 0 (fun _ => true) true m 3 ((List.drop 1 [c0, c1, c2, c3, c4, c5, c6, c7, c8, c9]).take (Try.prog.cellsOf 3)) = ([y0, y1, y2] : List (DataW H × List MemPlace))[1]? := hg 1 _ rfl
      rw [show Try.prog.cellsOf 3 = 1 by kernel_rfl] at s1
      have t1 : DataW.trod en Try.prog W 0 (fun _ => true) true m 3 [c1] = some y1 := s1
      clear s1
      have s2 : DataW.trod en Try.prog W 0 (fun _ => true) true m 35 ((List.drop 2 [c0, c1, c2, c3, c4, c5, c6, c7, c8, c9]).take (Try.prog.cellsOf 35)) = ([y0, y1, y2] : List (DataW H × List MemPlace))[2]? := hg 2 _ rfl
      rw [show Try.prog.cellsOf 35 = 8 by kernel_rfl] at s2
      have t2 : DataW.trod en Try.prog W 0 (fun _ => true) true m 35 [c2, c3, c4, c5, c6, c7, c8, c9] = some y2 := s2
      clear s2
      obtain ⟨a0, rfl, i0⟩ := Ad.int_in t0
      obtain ⟨a1, rfl, i1⟩ := Ad.int_in t1
      obtain ⟨a2, e2, i2⟩ := rd_ft t2 rfl
      simp only [encF, List.cons.injEq, and_true] at e2
      obtain ⟨rfl, rfl, rfl, rfl, rfl, rfl, rfl, rfl⟩ := e2
      exact ⟨⟨a0, a1, a2⟩, rfl, trivial⟩
set_option maxRecDepth 100000 in
theorem rd_rc : Args.Reads Try.prog 25 13 encC okC := by
  intro H en W n cs y hf hl
  match cs, hl with
  | [c0, c1, c2, c3, c4, c5, c6, c7, c8, c9, c10, c11, c12], _ =>
    obtain ⟨xs, m, _, _, hl, hlen, hg⟩ := DataW.trod_struct Try.underlying25 hf
    match xs, hlen with
    | [y0, y1, y2, y3, y4, y5, y6, y7, y8, y9, y10], _ =>
      have s0 : DataW.trod en Try.prog W 0 (fun _ => true) true m 23 ((List.drop 0 [c0, c1, c2, c3, c4, c5, c6, c7, c8, c9, c10, c11, c12]).take (Try.prog.cellsOf 23)) = ([y0, y1, y2, y3, y4, y5, y6, y7, y8, y9, y10] : List (DataW H × List MemPlace))[0]? := hg 0 _ rfl
      rw [show Try.prog.cellsOf 23 = 3 by kernel_rfl] at s0
      have t0 : DataW.trod en Try.prog W 0 (fun _ => true) true m 23 [c0, c1, c2] = some y0 := s0
      clear s0
      have s1 : DataW.trod en Try.prog W 0 (fun _ => true) true m 3 ((List.drop 3 [c0, c1, c2, c3, c4, c5, c6, c7, c8, c9, c10, c11, c12]).take (Try.prog.cellsOf 3)) = ([y0, y1, y2, y3, y4, y5, y6, y7, y8, y9, y10] : List (DataW H × List MemPlace))[1]? := hg 1 _ rfl
      rw [show Try.prog.cellsOf 3 = 1 by kernel_rfl] at s1
      have t1 : DataW.trod en Try.prog W 0 (fun _ => true) true m 3 [c3] = some y1 := s1
      clear s1
      have s2 : DataW.trod en Try.prog W 0 (fun _ => true) true m 3 ((List.drop 4 [c0, c1, c2, c3, c4, c5, c6, c7, c8, c9, c10, c11, c12]).take (Try.prog.cellsOf 3)) = ([y0, y1, y2, y3, y4, y5, y6, y7, y8, y9, y10] : List (DataW H × List MemPlace))[2]? := hg 2 _ rfl
      rw [show Try.prog.cellsOf 3 = 1 by kernel_rfl] at s2
      have t2 : DataW.trod en Try.prog W 0 (fun _ => true) true m 3 [c4] = some y2 := s2
      clear s2
      have s3 : DataW.trod en Try.prog W 0 (fun _ => true) true m 3 ((List.drop 5 [c0, c1, c2, c3, c4, c5, c6, c7, c8, c9, c10, c11, c12]).take (Try.prog.cellsOf 3)) = ([y0, y1, y2, y3, y4, y5, y6, y7, y8, y9, y10] : List (DataW H × List MemPlace))[3]? := hg 3 _ rfl
      rw [show Try.prog.cellsOf 3 = 1 by kernel_rfl] at s3
      have t3 : DataW.trod en Try.prog W 0 (fun _ => true) true m 3 [c5] = some y3 := s3
      clear s3
      have s4 : DataW.trod en Try.prog W 0 (fun _ => true) true m 3 ((List.drop 6 [c0, c1, c2, c3, c4, c5, c6, c7, c8, c9, c10, c11, c12]).take (Try.prog.cellsOf 3)) = ([y0, y1, y2, y3, y4, y5, y6, y7, y8, y9, y10] : List (DataW H × List MemPlace))[4]? := hg 4 _ rfl
      rw [show Try.prog.cellsOf 3 = 1 by kernel_rfl] at s4
      have t4 : DataW.trod en Try.prog W 0 (fun _ => true) true m 3 [c6] = some y4 := s4
      clear s4
      have s5 : DataW.trod en Try.prog W 0 (fun _ => true) true m 3 ((List.drop 7 [c0, c1, c2, c3, c4, c5, c6, c7, c8, c9, c10, c11, c12]).take (Try.prog.cellsOf 3)) = ([y0, y1, y2, y3, y4, y5, y6, y7, y8, y9, y10] : List (DataW H × List MemPlace))[5]? := hg 5 _ rfl
      rw [show Try.prog.cellsOf 3 = 1 by kernel_rfl] at s5
      have t5 : DataW.trod en Try.prog W 0 (fun _ => true) true m 3 [c7] = some y5 := s5
      clear s5
      have s6 : DataW.trod en Try.prog W 0 (fun _ => true) true m 3 ((List.drop 8 [c0, c1, c2, c3, c4, c5, c6, c7, c8, c9, c10, c11, c12]).take (Try.prog.cellsOf 3)) = ([y0, y1, y2, y3, y4, y5, y6, y7, y8, y9, y10] : List (DataW H × List MemPlace))[6]? := hg 6 _ rfl
      rw [show Try.prog.cellsOf 3 = 1 by kernel_rfl] at s6
      have t6 : DataW.trod en Try.prog W 0 (fun _ => true) true m 3 [c8] = some y6 := s6
      clear s6
      have s7 : DataW.trod en Try.prog W 0 (fun _ => true) true m 4 ((List.drop 9 [c0, c1, c2, c3, c4, c5, c6, c7, c8, c9, c10, c11, c12]).take (Try.prog.cellsOf 4)) = ([y0, y1, y2, y3, y4, y5, y6, y7, y8, y9, y10] : List (DataW H × List MemPlace))[7]? := hg 7 _ rfl
      rw [show Try.prog.cellsOf 4 = 1 by kernel_rfl] at s7
      have t7 : DataW.trod en Try.prog W 0 (fun _ => true) true m 4 [c9] = some y7 := s7
      clear s7
      have s8 : DataW.trod en Try.prog W 0 (fun _ => true) true m 3 ((List.drop 10 [c0, c1, c2, c3, c4, c5, c6, c7, c8, c9, c10, c11, c12]).take (Try.prog.cellsOf 3)) = ([y0, y1, y2, y3, y4, y5, y6, y7, y8, y9, y10] : List (DataW H × List MemPlace))[8]? := hg 8 _ rfl
      rw [show Try.prog.cellsOf 3 = 1 by kernel_rfl] at s8
      have t8 : DataW.trod en Try.prog W 0 (fun _ => true) true m 3 [c10] = some y8 := s8
      clear s8
      have s9 : DataW.trod en Try.prog W 0 (fun _ => true) true m 3 ((List.drop 11 [c0, c1, c2, c3, c4, c5, c6, c7, c8, c9, c10, c11, c12]).take (Try.prog.cellsOf 3)) = ([y0, y1, y2, y3, y4, y5, y6, y7, y8, y9, y10] : List (DataW H × List MemPlace))[9]? := hg 9 _ rfl
      rw [show Try.prog.cellsOf 3 = 1 by kernel_rfl] at s9
      have t9 : DataW.trod en Try.prog W 0 (fun _ => true) true m 3 [c11] = some y9 := s9
      clear s9
      have s10 : DataW.trod en Try.prog W 0 (fun _ => true) true m 3 ((List.drop 12 [c0, c1, c2, c3, c4, c5, c6, c7, c8, c9, c10, c11, c12]).take (Try.prog.cellsOf 3)) = ([y0, y1, y2, y3, y4, y5, y6, y7, y8, y9, y10] : List (DataW H × List MemPlace))[10]? := hg 10 _ rfl
      rw [show Try.prog.cellsOf 3 = 1 by kernel_rfl] at s10
      have t10 : DataW.trod en Try.prog W 0 (fun _ => true) true m 3 [c12] = some y10 := s10
      clear s10
      obtain ⟨a0, e0, i0⟩ := rd_id t0 rfl
      simp only [encI, List.cons.injEq, and_true] at e0
      obtain ⟨rfl, rfl, rfl⟩ := e0
      obtain ⟨a1, rfl, i1⟩ := Ad.int_in t1
      obtain ⟨a2, rfl, i2⟩ := Ad.int_in t2
      obtain ⟨a3, rfl, i3⟩ := Ad.int_in t3
      obtain ⟨a4, rfl, i4⟩ := Ad.int_in t4
      obtain ⟨a5, rfl, i5⟩ := Ad.int_in t5
      obtain ⟨a6, rfl, i6⟩ := Ad.int_in t6
      obtain ⟨a7, rfl⟩ := Ad.bool_in t7
      obtain ⟨a8, rfl, i8⟩ := Ad.int_in t8
      obtain ⟨a9, rfl, i9⟩ := Ad.int_in t9
      obtain ⟨a10, rfl, i10⟩ := Ad.int_in t10
      exact ⟨⟨a0.n, a0.i, a0.s, a1, a2, a3, a4, a5, a6, a7, a8, a9, a10⟩, rfl, i3⟩

/-- a slice of deeds -/
abbrev Deeds (W : World) (v : Value) (len : Nat) (F : Nat → De) : Prop := Args.Lies W v 10 encD okD len F
section
variable {H : Type} {en : TypeId × Value → H} {W : World} {r : Reach} {b0 : Nat} {v : Value} {d : DataW H} {q : List MemPlace}
theorem open_deeds (hv : Value.okWide Try.prog W r b0 29 v) (h : DataW.Trod en Try.prog W 0 (fun _ => true) true 29 v d q) : ∃ len F, Deeds W v len F :=
  Args.open_lies (k := 10) Try.underlying29 (by kernel_rfl) (by omega) (fun _ => rfl) rd_de hv h
theorem open_rc (hv : Value.okWide Try.prog W r b0 25 v) (h : DataW.Trod en Try.prog W 0 (fun _ => true) true 25 v d q) : ∃ c : Cl, v = .agg c.arr ∧ Wd c.att :=
  open_st Try.underlying25 (by kernel_rfl) rd_rc hv h
theorem open_id (hv : Value.okWide Try.prog W r b0 23 v) (h : DataW.Trod en Try.prog W 0 (fun _ => true) true 23 v d q) : ∃ a : Nm, v = .agg #[.int .i64 a.n, .int .i64 a.i, .int .i64 a.s] :=
  (open_st Try.underlying23 (by kernel_rfl) rd_id hv h).imp fun _ h => h.1
theorem open_ft (hv : Value.okWide Try.prog W r b0 35 v) (h : DataW.Trod en Try.prog W 0 (fun _ => true) true 35 v d q) : ∃ f : Ft, v = .agg f.arr ∧ f.Lim :=
  open_st Try.underlying35 (by kernel_rfl) rd_ft hv h
end
/-- a deed is loaded out of a slice -/
theorem load_deed {u : World} {b o : Nat} {d : De} (h : ∀ j x, (encD d)[j]? = some x → u.cell? ⟨b, o + j, none⟩ = some x) : (loadVar 37 ⟨b, o, none⟩).run Try.prog u = .ok (.agg d.arr) u :=
  run_loadVar_mid u b o _ (encD d) _ h Try.underlying37 rfl info_de

end Go.Proofs.Ytpicjcophjekpaa.Cl
