/- An api.Config: in blocks, and as an argument. -/
import Derived.Test.YtcoagmkncjonmaaDoorWr
import Derived.Deep.WholeRow
import Derived.Deep.Cut
import Derived.Deep.RegionHeld3
import Derived.IntWalk
import Derived.ChangeSame
import Derived.ChangeSlices
import Derived.ChangeArms
import Derived.WideShapes
import Derived.Deep.Slices
namespace Go.Proofs.YtcoagmkncjonmaaDoor.Ad
open Go.RowKit Go.Sort St Go.Deep Go.ChangeShapes Go.WideShapes
open Go.Proofs.YtcoagmkncjonmaaDoor.Id (quiet_at)
set_option linter.unusedVariables false
set_option linter.unusedSimpArgs false

structure Cf where
  (nodes skew lease grain least hops cap fan attempts base most wait tokens : Int) (pa : Option Addr) (pn pc : Nat)
def Cf.arr (c : Cf) : Array Value :=
  #[.int .i64 c.nodes, .int .i64 c.skew, .int .i64 c.lease, .int .i64 c.grain, .int .i64 c.least, .int .i64 c.hops, .int .i64 c.cap, .int .i64 c.fan, .int .i64 c.attempts, .int .i64 c.base, .int .i64 c.most, .int .i64 c.wait, .int .i64 c.tokens, .slice c.pa c.pn c.pc]
theorem info_cf : (Tryd.prog.info? 24).map (·.size) = some 14 := by kernel_rfl
theorem loadc_regrown {W : World} {b : Nat} {c : Cf} (hb : W.heap[b]? = some (.cells c.arr 24 (0, 0))) :
    Hid (∀ w, (∃ q : Regrown, w = grow (redrawn W q.d) q.os) → (loadVar 24 ⟨b, 0, none⟩).run Tryd.prog w = .ok (.agg c.arr) w) :=
  fun w ⟨q, hq⟩ => by subst hq; exact run_loadVar_row _ b _ _ c.arr (0, 0) _ (kept_blk (below_regrown W q.d q.os) hb) Tryd.underlying24 rfl info_cf

/-- what a word holds -/
def Wd (n : Int) : Prop := -9223372036854775808 ≤ n ∧ n ≤ 9223372036854775807
/-- its numbers are words: those of them that laws so far ask for -/
def Cf.Lim (c : Cf) : Prop := Wd c.least ∧ Wd c.hops ∧ Wd c.fan ∧ Wd c.attempts ∧ Wd c.base ∧ Wd c.most ∧ Wd c.tokens
theorem wd_of {a : Int} (h : (Lit.int .i64 a).wf = true) : Wd a := by
  have hh : IntKind.i64.min ≤ a ∧ a ≤ IntKind.i64.max := by simpa [Lit.wf] using h
  rw [show IntKind.i64.min = -9223372036854775808 from rfl, show IntKind.i64.max = 9223372036854775807 from rfl] at hh
  exact hh
theorem cells_int : Tryd.prog.cellsOf 3 = 1 := by kernel_rfl
theorem cells_bool : Tryd.prog.cellsOf 4 = 1 := by kernel_rfl
theorem int_in {H : Type} {enc : TypeId × Value → H} {W : World} {n : Nat} {c0 : Value} {y : DataW H × List MemPlace} (h : DataW.trod enc Tryd.prog W 0 (fun _ => true) true n 3 [c0] = some y) : ∃ a : Int, c0 = .int .i64 a ∧ Wd a := by
  obtain ⟨a, h0, _, w0⟩ := DataW.trod_int Tryd.underlying3 h
  simp only [List.cons.injEq, and_true] at h0
  exact ⟨a, h0, wd_of w0⟩
theorem bool_in {H : Type} {enc : TypeId × Value → H} {W : World} {n : Nat} {c0 : Value} {y : DataW H × List MemPlace} (h : DataW.trod enc Tryd.prog W 0 (fun _ => true) true n 4 [c0] = some y) : ∃ b : Bool, c0 = .bool b := by
  obtain ⟨b, e, _⟩ := DataW.trod_bool Tryd.underlying4 h
  simp only [List.cons.injEq, and_true] at e
  exact ⟨b, e⟩

theorem cells14 : Tryd.prog.cellsOf 24 = 14 := by kernel_rfl
theorem cellsSl : Tryd.prog.cellsOf 22 = 1 := by kernel_rfl
theorem slice_cell {H : Type} {enc : TypeId × Value → H} {W : World} {n : Nat} {c0 : Value} {y : DataW H × List MemPlace} (h : DataW.trod enc Tryd.prog W 0 (fun _ => true) true n 22 [c0] = some y) : ∃ a len cap, c0 = .slice a len cap := by
  rcases open_slice Tryd.underlying22 h with ⟨hcs, hx⟩ | ⟨a, len, cap, m, n, D, Pl, hcs, _, hl, hm, hmm, hx, hall⟩
  · simp only [List.cons.injEq, and_true] at hcs
    exact ⟨_, _, _, hcs⟩
  · simp only [List.cons.injEq, and_true] at hcs
    exact ⟨_, _, _, hcs⟩

/-- every number of a configuration is an int -/
def Cf.Wds (c : Cf) : Prop := ∀ n ∈ [c.nodes, c.skew, c.lease, c.grain, c.least, c.hops, c.cap, c.fan, c.attempts, c.base, c.most, c.wait, c.tokens], Wd n

theorem wds_of {a0 a1 a2 a3 a4 a5 a6 a7 a8 a9 a10 a11 a12 : Int} (i0 : Wd a0) (i1 : Wd a1) (i2 : Wd a2) (i3 : Wd a3) (i4 : Wd a4) (i5 : Wd a5) (i6 : Wd a6) (i7 : Wd a7) (i8 : Wd a8) (i9 : Wd a9) (i10 : Wd a10) (i11 : Wd a11) (i12 : Wd a12) : ∀ n ∈ [a0, a1, a2, a3, a4, a5, a6, a7, a8, a9, a10, a11, a12], Wd n := by
  intro n hn
  simp only [List.mem_cons, List.not_mem_nil, or_false] at hn
  rcases hn with e | e | e | e | e | e | e | e | e | e | e | e | e <;> subst e <;> assumption

set_option maxRecDepth 100000 in
set_option maxHeartbeats 4000000 in
theorem open_cfw {H : Type} {enc : TypeId × Value → H} {W : World} {r : Reach} {b0 : Nat} {v : Value} {d : DataW H} {q : List MemPlace} (hv : Value.okWide Tryd.prog W r b0 24 v)
    (h : DataW.Trod enc Tryd.prog W 0 (fun _ => true) true 24 v d q) : ∃ c : Cf, v = .agg c.arr ∧ c.Wds := by
  obtain ⟨cs, rfl, hcs⟩ := okWide_struct Tryd.underlying24 hv
  rw [cells14] at hcs
  obtain ⟨fuel, hf⟩ := h
  obtain ⟨l⟩ := cs
  match l, hcs with
  | [c0, c1, c2, c3, c4, c5, c6, c7, c8, c9, c10, c11, c12, c13], _ =>
    obtain ⟨xs, n, _, _, hl, hlen, hg⟩ := DataW.trod_struct Tryd.underlying24 hf
    match xs, hlen with
    | [y0, y1, y2, y3, y4, y5, y6, y7, y8, y9, y10, y11, y12, y13], _ =>
      have s0 : DataW.trod enc Tryd.prog W 0 (fun _ => true) true n 3 ((List.drop 0 [c0, c1, c2, c3, c4, c5, c6, c7, c8, c9, c10, c11, c12, c13]).take (Tryd.prog.cellsOf 3)) = ([y0, y1, y2, y3, y4, y5, y6, y7, y8, y9, y10, y11, y12, y13] : List (DataW H × List MemPlace))[0]? := hg 0 _ rfl
      rw [cells_int] at s0
      have t0 : DataW.trod enc Tryd.prog W 0 (fun _ => true) true n 3 [c0] = some y0 := s0
      clear s0
      have s1 : DataW.trod enc Tryd.prog W 0 (fun _ => true) true n 3 ((List.drop 1 [c0, c1, c2, c3, c4, c5, c6, c7, c8, c9, c10, c11, c12, c13]).take (Tryd.prog.cellsOf 3)) = ([y0, y1, y2, y3, y4, y5, y6, y7, y8, y9, y10, y11, y12, y13] : List (DataW H × List MemPlace))[1]? := hg 1 _ rfl
      rw [cells_int] at s1
      have t1 : DataW.trod enc Tryd.prog W 0 (fun _ => true) true n 3 [c1] = some y1 := s1
      clear s1
      have s2 : DataW.trod enc Tryd.prog W 0 (fun _ => true) true n 3 ((List.drop 2 [c0, c1, c2, c3, c4, c5, c6, c7, c8, c9, c10, c11, c12, c13]).take (Tryd.prog.cellsOf 3)) = ([y0, y1, y2, y3, y4, y5, y6, y7, y8, y9, y10, y11, y12, y13] : List (DataW H × List MemPlace))[2]? := hg 2 _ rfl
      rw [cells_int] at s2
      have t2 : DataW.trod enc Tryd.prog W 0 (fun _ => true) true n 3 [c2] = some y2 := s2
      clear s2
      have s3 : DataW.trod enc Tryd.prog W 0 (fun _ => true) true n 3 ((List.drop 3 [c0, c1, c2, c3, c4, c5, c6, c7, c8, c9, c10, c11, c12, c13]).take (Tryd.prog.cellsOf 3)) = ([y0, y1, y2, y3, y4, y5, y6, y7, y8, y9, y10, y11, y12, y13] : List (DataW H × List MemPlace))[3]? := hg 3 _ rfl
      rw [cells_int] at s3
      have t3 : DataW.trod enc Tryd.prog W 0 (fun _ => true) true n 3 [c3] = some y3 := s3
      clear s3
      have s4 : DataW.trod enc Tryd.prog W 0 (fun _ => true) true n 3 ((List.drop 4 [c0, c1, c2, c3, c4, c5, c6, c7, c8, c9, c10, c11, c12, c13]).take (Tryd.prog.cellsOf 3)) = ([y0, y1, y2, y3, y4, y5, y6, y7, y8, y9, y10, y11, y12, y13] : List (DataW H × List MemPlace))[4]? := hg 4 _ rfl
      rw [cells_int] at s4
      have t4 : DataW.trod enc Tryd.prog W 0 (fun _ => true) true n 3 [c4] = some y4 := s4
      clear s4
      have s5 : DataW.trod enc Tryd.prog W 0 (fun _ => true) true n 3 ((List.drop 5 [c0, c1, c2, c3, c4, c5, c6, c7, c8, c9, c10, c11, c12, c13]).take (Tryd.prog.cellsOf 3)) = ([y0, y1, y2, y3, y4, y5, y6, y7, y8, y9, y10, y11, y12, y13] : List (DataW H × List MemPlace))[5]? := hg 5 _ rfl
      rw [cells_int] at s5
      have t5 : DataW.trod enc Tryd.prog W 0 (fun _ => true) true n 3 [c5] = some y5 := s5
      clear s5
      have s6 : DataW.trod enc Tryd.prog W 0 (fun _ => true) true n 3 ((List.drop 6 [c0, c1, c2, c3, c4, c5, c6, c7, c8, c9, c10, c11, c12, c13]).take (Tryd.prog.cellsOf 3)) = ([y0, y1, y2, y3, y4, y5, y6, y7, y8, y9, y10, y11, y12, y13] : List (DataW H × List MemPlace))[6]? := hg 6 _ rfl
      rw [cells_int] at s6
      have t6 : DataW.trod enc Tryd.prog W 0 (fun _ => true) true n 3 [c6] = some y6 := s6
      clear s6
      have s7 : DataW.trod enc Tryd.prog W 0 (fun _ => true) true n 3 ((List.drop 7 [c0, c1, c2, c3, c4, c5, c6, c7, c8, c9, c10, c11, c12, c13]).take (Tryd.prog.cellsOf 3)) = ([y0, y1, y2, y3, y4, y5, y6, y7, y8, y9, y10, y11, y12, y13] : List (DataW H × List MemPlace))[7]? := hg 7 _ rfl
      rw [cells_int] at s7
      have t7 : DataW.trod enc Tryd.prog W 0 (fun _ => true) true n 3 [c7] = some y7 := s7
      clear s7
      have s8 : DataW.trod enc Tryd.prog W 0 (fun _ => true) true n 3 ((List.drop 8 [c0, c1, c2, c3, c4, c5, c6, c7, c8, c9, c10, c11, c12, c13]).take (Tryd.prog.cellsOf 3)) = ([y0, y1, y2, y3, y4, y5, y6, y7, y8, y9, y10, y11, y12, y13] : List (DataW H × List MemPlace))[8]? := hg 8 _ rfl
      rw [cells_int] at s8
      have t8 : DataW.trod enc Tryd.prog W 0 (fun _ => true) true n 3 [c8] = some y8 := s8
      clear s8
      have s9 : DataW.trod enc Tryd.prog W 0 (fun _ => true) true n 3 ((List.drop 9 [c0, c1, c2, c3, c4, c5, c6, c7, c8, c9, c10, c11, c12, c13]).take (Tryd.prog.cellsOf 3)) = ([y0, y1, y2, y3, y4, y5, y6, y7, y8, y9, y10, y11, y12, y13] : List (DataW H × List MemPlace))[9]? := hg 9 _ rfl
      rw [cells_int] at s9
      have t9 : DataW.trod enc Tryd.prog W 0 (fun _ => true) true n 3 [c9] = some y9 := s9
      clear s9
      have s10 : DataW.trod enc Tryd.prog W 0 (fun _ => true) true n 3 ((List.drop 10 [c0, c1, c2, c3, c4, c5, c6, c7, c8, c9, c10, c11, c12, c13]).take (Tryd.prog.cellsOf 3)) = ([y0, y1, y2, y3, y4, y5, y6, y7, y8, y9, y10, y11, y12, y13] : List (DataW H × List MemPlace))[10]? := hg 10 _ rfl
      rw [cells_int] at s10
      have t10 : DataW.trod enc Tryd.prog W 0 (fun _ => true) true n 3 [c10] = some y10 := s10
      clear s10
      have s11 : DataW.trod enc Tryd.prog W 0 (fun _ => true) true n 3 ((List.drop 11 [c0, c1, c2, c3, c4, c5, c6, c7, c8, c9, c10, c11, c12, c13]).take (Tryd.prog.cellsOf 3)) = ([y0, y1, y2, y3, y4, y5, y6, y7, y8, y9, y10, y11, y12, y13] : List (DataW H × List MemPlace))[11]? := hg 11 _ rfl
      rw [cells_int] at s11
      have t11 : DataW.trod enc Tryd.prog W 0 (fun _ => true) true n 3 [c11] = some y11 := s11
      clear s11
      have s12 : DataW.trod enc Tryd.prog W 0 (fun _ => true) true n 3 ((List.drop 12 [c0, c1, c2, c3, c4, c5, c6, c7, c8, c9, c10, c11, c12, c13]).take (Tryd.prog.cellsOf 3)) = ([y0, y1, y2, y3, y4, y5, y6, y7, y8, y9, y10, y11, y12, y13] : List (DataW H × List MemPlace))[12]? := hg 12 _ rfl
      rw [cells_int] at s12
      have t12 : DataW.trod enc Tryd.prog W 0 (fun _ => true) true n 3 [c12] = some y12 := s12
      clear s12
      have s13 : DataW.trod enc Tryd.prog W 0 (fun _ => true) true n 22 ((List.drop 13 [c0, c1, c2, c3, c4, c5, c6, c7, c8, c9, c10, c11, c12, c13]).take (Tryd.prog.cellsOf 22)) = ([y0, y1, y2, y3, y4, y5, y6, y7, y8, y9, y10, y11, y12, y13] : List (DataW H × List MemPlace))[13]? := hg 13 _ rfl
      rw [cellsSl] at s13
      have t13 : DataW.trod enc Tryd.prog W 0 (fun _ => true) true n 22 [c13] = some y13 := s13
      clear s13
      obtain ⟨a0, rfl, i0⟩ := int_in t0
      obtain ⟨a1, rfl, i1⟩ := int_in t1
      obtain ⟨a2, rfl, i2⟩ := int_in t2
      obtain ⟨a3, rfl, i3⟩ := int_in t3
      obtain ⟨a4, rfl, i4⟩ := int_in t4
      obtain ⟨a5, rfl, i5⟩ := int_in t5
      obtain ⟨a6, rfl, i6⟩ := int_in t6
      obtain ⟨a7, rfl, i7⟩ := int_in t7
      obtain ⟨a8, rfl, i8⟩ := int_in t8
      obtain ⟨a9, rfl, i9⟩ := int_in t9
      obtain ⟨a10, rfl, i10⟩ := int_in t10
      obtain ⟨a11, rfl, i11⟩ := int_in t11
      obtain ⟨a12, rfl, i12⟩ := int_in t12
      obtain ⟨pa, pn, pc, rfl⟩ := slice_cell t13
      exact ⟨⟨a0, a1, a2, a3, a4, a5, a6, a7, a8, a9, a10, a11, a12, pa, pn, pc⟩, rfl, wds_of i0 i1 i2 i3 i4 i5 i6 i7 i8 i9 i10 i11 i12⟩
set_option maxRecDepth 100000 in
theorem open_cf {H : Type} {enc : TypeId × Value → H} {W : World} {r : Reach} {b0 : Nat} {v : Value} {d : DataW H} {q : List MemPlace} (hv : Value.okWide Tryd.prog W r b0 24 v)
    (h : DataW.Trod enc Tryd.prog W 0 (fun _ => true) true 24 v d q) : ∃ c : Cf, v = .agg c.arr ∧ c.Lim := by
  obtain ⟨c, e, k⟩ := open_cfw hv h
  exact ⟨c, e, k _ (List.mem_of_getElem? (i := 4) rfl), k _ (List.mem_of_getElem? (i := 5) rfl), k _ (List.mem_of_getElem? (i := 7) rfl), k _ (List.mem_of_getElem? (i := 8) rfl), k _ (List.mem_of_getElem? (i := 9) rfl), k _ (List.mem_of_getElem? (i := 10) rfl), k _ (List.mem_of_getElem? (i := 12) rfl)⟩

end Go.Proofs.YtcoagmkncjonmaaDoor.Ad
