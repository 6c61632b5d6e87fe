/- Deeds, as they lie in an argument. -/
import Derived.Test.YtglgkgpmfeamnaaArgX
import Derived.Test.YtglgkgpmfeamnaaBg
namespace Go.Proofs.Ytglgkgpmfeamnaa.Bg
open Go.RowKit Go.Deep Go.ChangeShapes Go.WideShapes Args
set_option linter.unusedVariables false

/-- a deed -/
structure Dd where
  k : Int
  n : Int
  a : Int
  b : Int
  f : Fl
instance : Inhabited Dd := ⟨⟨0, 0, 0, 0, z⟩⟩
def encD (d : Dd) : List Value := [.int .i64 d.k, .int .i64 d.n, .int .i64 d.a, .int .i64 d.b, .int .i64 d.f.fr, .int .i64 d.f.to, .string d.f.s, .bool d.f.h]
def okD (d : Dd) : Prop := (-9223372036854775808 ≤ d.k ∧ d.k ≤ 9223372036854775807) ∧ d.f.s.size ≤ maxLen

theorem c_int : Try.prog.cellsOf 3 = 1 := by kernel_rfl
theorem c_str : Try.prog.cellsOf 9 = 1 := by kernel_rfl
theorem c_bool : Try.prog.cellsOf 4 = 1 := by kernel_rfl
theorem c_fl : Try.prog.cellsOf 30 = 4 := by kernel_rfl
set_option maxRecDepth 100000 in
theorem reads_fl {H : Type} {en : TypeId × Value → H} {W : World} {n : Nat} {c0 c1 c2 c3 : Value} {y : DataW H × List MemPlace} (h : DataW.trod en Try.prog W 0 (fun _ => true) true n 30 [c0, c1, c2, c3] = some y) : ∃ f : Fl, [c0, c1, c2, c3] = enc f ∧ f.s.size ≤ maxLen := by
  obtain ⟨xs, m, _, _, hl, hlen, hg⟩ := DataW.trod_struct Try.underlying30 h
  match xs, hlen with
  | [y0, y1, y2, y3], _ =>
    have s0 : DataW.trod en Try.prog W 0 (fun _ => true) true m 3 ((List.drop 0 [c0, c1, c2, c3]).take (Try.prog.cellsOf 3)) = ([y0, y1, y2, y3] : List (DataW H × List MemPlace))[0]? := hg 0 _ rfl
    rw [c_int] at s0
    have t0 : DataW.trod en Try.prog W 0 (fun _ => true) true m 3 [c0] = some y0 := s0
    have s1 : DataW.trod en Try.prog W 0 (fun _ => true) true m 3 ((List.drop 1 [c0, c1, c2, c3]).take (Try.prog.cellsOf 3)) = ([y0, y1, y2, y3] : List (DataW H × List MemPlace))[1]? := hg 1 _ rfl
    rw [c_int] at s1
    have t1 : DataW.trod en Try.prog W 0 (fun _ => true) true m 3 [c1] = some y1 := s1
    have s2 : DataW.trod en Try.prog W 0 (fun _ => true) true m 9 ((List.drop 2 [c0, c1, c2, c3]).take (Try.prog.cellsOf 9)) = ([y0, y1, y2, y3] : List (DataW H × List MemPlace))[2]? := hg 2 _ rfl
    rw [c_str] at s2
    have t2 : DataW.trod en Try.prog W 0 (fun _ => true) true m 9 [c2] = some y2 := s2
    have s3 : DataW.trod en Try.prog W 0 (fun _ => true) true m 4 ((List.drop 3 [c0, c1, c2, c3]).take (Try.prog.cellsOf 4)) = ([y0, y1, y2, y3] : List (DataW H × List MemPlace))[3]? := hg 3 _ rfl
    rw [c_bool] at s3
    have t3 : DataW.trod en Try.prog W 0 (fun _ => true) true m 4 [c3] = some y3 := s3
    obtain ⟨a, h0, _, w0⟩ := DataW.trod_int Try.underlying3 t0
    obtain ⟨b, h1, _, w1⟩ := DataW.trod_int Try.underlying3 t1
    obtain ⟨t, h2, _, w2⟩ := DataW.trod_string Try.underlying9 t2
    obtain ⟨q, h3, _⟩ := DataW.trod_bool Try.underlying4 t3
    simp only [List.cons.injEq, and_true] at h0 h1 h2 h3
    exact ⟨⟨a, b, t, q⟩, by rw [h0, h1, h2, h3]; rfl, w2⟩
set_option maxRecDepth 100000 in
theorem reads_deed : Reads Try.prog 32 8 encD okD := by
  intro H en W n cs y hf hl
  match cs, hl with
  | [c0, c1, c2, c3, c4, c5, c6, c7], _ =>
    obtain ⟨xs, m, _, _, hl, hlen, hg⟩ := DataW.trod_struct Try.underlying32 hf
    match xs, hlen with
    | [y0, y1, y2, y3, y4], _ =>
      have s0 : DataW.trod en Try.prog W 0 (fun _ => true) true m 3 ((List.drop 0 [c0, c1, c2, c3, c4, c5, c6, c7]).take (Try.prog.cellsOf 3)) = ([y0, y1, y2, y3, y4] : List (DataW H × List MemPlace))[0]? := hg 0 _ rfl
      rw [c_int] at s0
      have t0 : DataW.trod en Try.prog W 0 (fun _ => true) true m 3 [c0] = some y0 := s0
      have s1 : DataW.trod en Try.prog W 0 (fun _ => true) true m 3 ((List.drop 1 [c0, c1, c2, c3, c4, c5, c6, c7]).take (Try.prog.cellsOf 3)) = ([y0, y1, y2, y3, y4] : List (DataW H × List MemPlace))[1]? := hg 1 _ rfl
      rw [c_int] at s1
      have t1 : DataW.trod en Try.prog W 0 (fun _ => true) true m 3 [c1] = some y1 := s1
      have s2 : DataW.trod en Try.prog W 0 (fun _ => true) true m 3 ((List.drop 2 [c0, c1, c2, c3, c4, c5, c6, c7]).take (Try.prog.cellsOf 3)) = ([y0, y1, y2, y3, y4] : List (DataW H × List MemPlace))[2]? := hg 2 _ rfl
      rw [c_int] at s2
      have t2 : DataW.trod en Try.prog W 0 (fun _ => true) true m 3 [c2] = some y2 := s2
      have s3 : DataW.trod en Try.prog W 0 (fun _ => true) true m 3 ((List.drop 3 [c0, c1, c2, c3, c4, c5, c6, c7]).take (Try.prog.cellsOf 3)) = ([y0, y1, y2, y3, y4] : List (DataW H × List MemPlace))[3]? := hg 3 _ rfl
      rw [c_int] at s3
      have t3 : DataW.trod en Try.prog W 0 (fun _ => true) true m 3 [c3] = some y3 := s3
      have s4 : DataW.trod en Try.prog W 0 (fun _ => true) true m 30 ((List.drop 4 [c0, c1, c2, c3, c4, c5, c6, c7]).take (Try.prog.cellsOf 30)) = ([y0, y1, y2, y3, y4] : List (DataW H × List MemPlace))[4]? := hg 4 _ rfl
      rw [c_fl] at s4
      have t4 : DataW.trod en Try.prog W 0 (fun _ => true) true m 30 [c4, c5, c6, c7] = some y4 := s4
      obtain ⟨k, h0, _, w0⟩ := DataW.trod_int Try.underlying3 t0
      obtain ⟨n', h1, _, w1⟩ := DataW.trod_int Try.underlying3 t1
      obtain ⟨a, h2, _, w2⟩ := DataW.trod_int Try.underlying3 t2
      obtain ⟨b, h3, _, w3⟩ := DataW.trod_int Try.underlying3 t3
      simp only [List.cons.injEq, and_true] at h0 h1 h2 h3
      obtain ⟨f, h4, hs⟩ := reads_fl t4
      subst h0; subst h1; subst h2; subst h3
      refine ⟨⟨k, n', a, b, f⟩, ?_, i64_of w0, hs⟩
      unfold enc at h4
      simp only [List.cons.injEq, and_true] at h4
      obtain ⟨rfl, rfl, rfl, rfl⟩ := h4
      rfl

/-- a slice of deeds -/
abbrev Deeds (W : World) (v : Value) (len : Nat) (F : Nat → Dd) : Prop := Lies W v 8 encD okD len F
section
variable {H : Type} {en : TypeId × Value → H} {W : World} {r : Reach} {b0 : Nat} {v : Value} {d : DataW H} {q : List MemPlace}
set_option maxRecDepth 100000 in
theorem open_deeds (hv : Value.okWide Try.prog W r b0 22 v) (h : DataW.Trod en Try.prog W 0 (fun _ => true) true 22 v d q) : ∃ len F, Deeds W v len F :=
  open_lies (k := 8) Try.underlying22 (by kernel_rfl) (by omega) (fun _ => rfl) reads_deed hv h
end

end Go.Proofs.Ytglgkgpmfeamnaa.Bg
