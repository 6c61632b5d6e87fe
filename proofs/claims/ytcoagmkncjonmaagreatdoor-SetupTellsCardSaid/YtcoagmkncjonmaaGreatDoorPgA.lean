/- How steps, programs and configurations lie as arguments. No function of the program is spoken of here. -/
import Derived.Test.YtcoagmkncjonmaaGreatDoorPg
import Derived.Test.YtcoagmkncjonmaaGreatDoorCf
namespace Go.Proofs.YtcoagmkncjonmaaGreatDoor.Pg
open Go.RowKit Go.Deep Go.ChangeShapes Go.WideShapes Args
set_option linter.unusedVariables false
set_option linter.unusedSimpArgs false

theorem int_at {H : Type} {en : TypeId × Value → H} {W : World} {n : Nat} {c0 : Value} {y : DataW H × List MemPlace} (h : DataW.trod en Tryz.prog W 0 (fun _ => true) true n 3 [c0] = some y) : ∃ a : Int, c0 = .int .i64 a ∧ Wd a := by
  obtain ⟨a, h0, _, w0⟩ := DataW.trod_int Tryz.underlying3 h
  simp only [List.cons.injEq, and_true] at h0
  exact ⟨a, h0, Args.i64_of w0⟩
set_option maxRecDepth 100000 in
theorem rd_op : Args.Reads Tryz.prog 67 3 Op.row Op.Fit := by
  intro H en W n cs y hf hl
  match cs, hl with
  | [c0, c1, c2], _ =>
    obtain ⟨xs, m, _, _, hl, hlen, hg⟩ := DataW.trod_struct Tryz.underlying67 hf
    match xs, hlen with
    | [y0, y1, y2], _ =>
      have s0 : DataW.trod en Tryz.prog W 0 (fun _ => true) true m 3 ((List.drop 0 [c0, c1, c2]).take (Tryz.prog.cellsOf 3)) = ([y0, y1, y2] : List (DataW H × List MemPlace))[0]? := hg 0 _ rfl
      rw [show Tryz.prog.cellsOf 3 = 1 by kernel_rfl] at s0
      have t0 : DataW.trod en Tryz.prog W 0 (fun _ => true) true m 3 [c0] = some y0 := s0
      have s1 : DataW.trod en Tryz.prog W 0 (fun _ => true) true m 3 ((List.drop 1 [c0, c1, c2]).take (Tryz.prog.cellsOf 3)) = ([y0, y1, y2] : List (DataW H × List MemPlace))[1]? := hg 1 _ rfl
      rw [show Tryz.prog.cellsOf 3 = 1 by kernel_rfl] at s1
      have t1 : DataW.trod en Tryz.prog W 0 (fun _ => true) true m 3 [c1] = some y1 := s1
      have s2 : DataW.trod en Tryz.prog W 0 (fun _ => true) true m 3 ((List.drop 2 [c0, c1, c2]).take (Tryz.prog.cellsOf 3)) = ([y0, y1, y2] : List (DataW H × List MemPlace))[2]? := hg 2 _ rfl
      rw [show Tryz.prog.cellsOf 3 = 1 by kernel_rfl] at s2
      have t2 : DataW.trod en Tryz.prog W 0 (fun _ => true) true m 3 [c2] = some y2 := s2
      obtain ⟨a0, rfl, i0⟩ := int_at t0
      obtain ⟨a1, rfl, i1⟩ := int_at t1
      obtain ⟨a2, rfl, i2⟩ := int_at t2
      exact ⟨⟨a0, a1, a2⟩, rfl, i0, i1, i2⟩
theorem cells_op : Tryz.prog.cellsOf 67 = 3 := by kernel_rfl

set_option maxRecDepth 100000 in
/-- a slice of steps as an argument -/
theorem open_ops {H : Type} {en : TypeId × Value → H} {W : World} {r : Reach} {b0 : Nat} {v : Value} {d : DataW H} {p : List MemPlace} (hv : Value.okWide Tryz.prog W r b0 39 v) (h : DataW.Trod en Tryz.prog W 0 (fun _ => true) true 39 v d p) :
    ∃ L : List Op, Ops W v L ∧ ∀ o ∈ L, o.Fit := by
  obtain ⟨n, F, hl⟩ := Args.open_lies (k := 3) (enc := Op.row) (ok := Op.Fit) Tryz.underlying39 cells_op (Nat.zero_lt_succ 2) Op.row_len rd_op hv h
  obtain ⟨L, h1, _, h2⟩ := ops_lies hl
  exact ⟨L, h1, h2⟩

set_option maxRecDepth 100000 in
/-- a slice of steps within another value -/
theorem cell_ops {H : Type} {en : TypeId × Value → H} {W : World} {n : Nat} {c : Value} {y : DataW H × List MemPlace} (h : DataW.trod en Tryz.prog W 0 (fun _ => true) true n 39 [c] = some y) : ∃ L : List Op, Ops W c L ∧ ∀ o ∈ L, o.Fit := by
  rcases open_slice Tryz.underlying39 h with ⟨hcs, hx⟩ | ⟨a, len, cap, m, n, D, Pl, hcs, _, hle, hm, hmm, hx, hall⟩
  · simp only [List.cons.injEq, and_true] at hcs
    exact ⟨[], .inl ⟨rfl, _, _, hcs⟩, fun o h => by cases h⟩
  · simp only [List.cons.injEq, and_true] at hcs
    subst hcs
    simp only [if_true] at hmm
    by_cases h0 : len = 0
    · subst h0; exact ⟨[], .inl ⟨rfl, _, _, rfl⟩, fun o h => by cases h⟩
    · have hcell : ∀ i, i < len → ∃ l : Op, l.Fit ∧ ∀ j x, l.row[j]? = some x → W.cell? (a.add (i * 3 + j)) = some x := fun i hi => by
        obtain ⟨cs', h1, h2⟩ := hall i (by omega)
        rw [cells_op] at h1
        obtain ⟨_, hlen, hcell⟩ := World.cells?_some h1
        obtain ⟨l, rfl, hl2⟩ := rd_op h2 hlen
        refine ⟨l, hl2, fun j x hj => ?_⟩
        have hjl : j < 3 := by rw [← hlen]; exact (List.getElem?_eq_some_iff.1 hj).1
        have := hcell j hjl
        rw [add_add] at this
        rw [this]
        exact hj
      obtain ⟨b, off, spot⟩ := a
      obtain ⟨F, hF⟩ := choose_lt hcell
      have hspot : spot = none := by simpa [Addr.add] using World.cell?_spot ((hF 0 (by omega)).2 0 _ rfl)
      subst hspot
      have hF2 : ∀ i, i < len → (F i).Fit ∧ ∀ j x, (F i).row[j]? = some x → W.cell? ⟨b, off + i * 3 + j, none⟩ = some x := fun i hi => by
        obtain ⟨q2, q3⟩ := hF i hi
        refine ⟨q2, fun j x hj => ?_⟩
        have := q3 j x hj
        rw [add_plain] at this
        rw [Nat.add_assoc]; exact this
      obtain ⟨L, h1, _, h2⟩ := ops_lies (W := W) (v := .slice (some ⟨b, off, none⟩) len cap) (n := len) (F := F) (.inr ⟨by omega, by omega, b, off, cap, rfl, cell_in ((hF2 0 (by omega)).2 0 _ rfl), hF2⟩)
      exact ⟨L, h1, h2⟩

/-- v is a slice of such slices -/
def Progs (W : World) (v : Value) (M : List (List Op)) : Prop :=
  (M = [] ∧ ∃ a cap, v = .slice a 0 cap) ∨
  (M ≠ [] ∧ M.length ≤ maxLen ∧ ∃ b off cap, v = .slice (some ⟨b, off, none⟩) M.length cap ∧ b < W.heap.size ∧ ∀ i L, M[i]? = some L → ∃ x, W.cell? ⟨b, off + i, none⟩ = some x ∧ Ops W x L)
section
variable {W W' : World} {v : Value} {M : List (List Op)}
theorem Progs.go (h : Progs W v M) (k : St.Kept W W') : Progs W' v M := by
  rcases h with h | ⟨h1, h2, b, off, cap, e, hb, hc⟩
  · exact .inl h
  · refine .inr ⟨h1, h2, b, off, cap, e, Nat.lt_of_lt_of_le hb (Below.size k), fun i L hi => ?_⟩
    obtain ⟨x, hx, ho⟩ := hc i L hi
    exact ⟨x, (Below.cell k (p := ⟨b, _, none⟩) hb).trans hx, ho.go k⟩
theorem Progs.slice (h : Progs W v M) : ∃ p N cap, v = .slice p N cap ∧ M.length = N ∧ N ≤ maxLen := by
  rcases h with ⟨rfl, a, cap, e⟩ | ⟨_, h2, b, off, cap, e, _⟩
  · exact ⟨a, 0, cap, e, rfl, Nat.zero_le _⟩
  · exact ⟨_, _, cap, e, rfl, h2⟩
theorem Progs.pick {p : Option Addr} {N cap : Nat} (h : Progs W (.slice p N cap) M) {i : Nat} (hi : i < M.length) : ∃ L b off x, M[i]? = some L ∧ p = some ⟨b, off, none⟩ ∧ W.cell? ⟨b, off + i, none⟩ = some x ∧ Ops W x L := by
  rcases h with ⟨rfl, _⟩ | ⟨_, _, b, off, cap, e, hb, hc⟩
  · simp at hi
  · injection e with e
    obtain ⟨x, hx, ho⟩ := hc i _ (List.getElem?_eq_getElem hi)
    exact ⟨_, b, off, x, List.getElem?_eq_getElem hi, e, hx, ho⟩
end
theorem cell1_ops : Tryz.prog.cellsOf 39 = 1 := by kernel_rfl
set_option maxRecDepth 100000 in
/-- a slice of programs within another value -/
theorem cell_progs {H : Type} {en : TypeId × Value → H} {W : World} {n : Nat} {c : Value} {y : DataW H × List MemPlace} (h : DataW.trod en Tryz.prog W 0 (fun _ => true) true n 22 [c] = some y) : ∃ M : List (List Op), Progs W c M ∧ ∀ L ∈ M, ∀ o ∈ L, o.Fit := by
  rcases open_slice Tryz.underlying22 h with ⟨hcs, hx⟩ | ⟨a, len, cap, m, n, D, Pl, hcs, _, hle, hm, hmm, hx, hall⟩
  · simp only [List.cons.injEq, and_true] at hcs
    exact ⟨[], .inl ⟨rfl, _, _, hcs⟩, fun o h => by cases h⟩
  · simp only [List.cons.injEq, and_true] at hcs
    subst hcs
    simp only [if_true] at hmm
    by_cases h0 : len = 0
    · subst h0; exact ⟨[], .inl ⟨rfl, _, _, rfl⟩, fun o h => by cases h⟩
    · have hcell : ∀ i, i < len → ∃ l : Value × List Op, W.cell? (a.add i) = some l.1 ∧ Ops W l.1 l.2 ∧ ∀ o ∈ l.2, o.Fit := fun i hi => by
        obtain ⟨cs', h1, h2⟩ := hall i (by omega)
        rw [cell1_ops] at h1
        obtain ⟨_, hlen, hcell⟩ := World.cells?_some h1
        match cs', hlen with
        | [x], _ =>
          obtain ⟨L, ho, hf⟩ := cell_ops h2
          have := hcell 0 (by omega)
          rw [add_add] at this
          exact ⟨(x, L), by simpa using this, ho, hf⟩
      obtain ⟨b, off, spot⟩ := a
      obtain ⟨F, hF⟩ := choose_lt hcell
      have hspot : spot = none := by simpa [Addr.add] using World.cell?_spot (hF 0 (by omega)).1
      subst hspot
      have hF2 : ∀ i, i < len → W.cell? ⟨b, off + i, none⟩ = some (F i).1 := fun i hi => by
        have := (hF i hi).1
        rw [add_plain] at this
        exact this
      have hl : ((List.range len).map fun i => (F i).2).length = len := by simp
      refine ⟨(List.range len).map fun i => (F i).2, .inr ⟨fun c => by rw [c] at hl; simp at hl; omega, by rw [hl]; omega, b, off, cap, by rw [hl], cell_in (hF2 0 (by omega)), fun i L hi => ?_⟩, fun L hL => ?_⟩
      · have hin : i < len := by have := (List.getElem?_eq_some_iff.1 hi).1; rwa [hl] at this
        simp [hin] at hi
        subst hi
        exact ⟨_, hF2 i hin, (hF i hin).2.1⟩
      · obtain ⟨i, hi, rfl⟩ := List.mem_map.1 hL
        exact (hF i (List.mem_range.1 hi)).2.2

set_option maxRecDepth 100000 in
/-- a configuration as an argument: its programs too -/
theorem open_cfpw {H : Type} {en : TypeId × Value → H} {W : World} {r : Reach} {b0 : Nat} {v : Value} {d : DataW H} {q : List MemPlace} (hv : Value.okWide Tryz.prog W r b0 24 v)
    (h : DataW.Trod en Tryz.prog W 0 (fun _ => true) true 24 v d q) : ∃ c : Ad.Cf, v = .agg c.arr ∧ c.Wds ∧ ∃ M : List (List Op), Progs W (.slice c.pa c.pn c.pc) M ∧ ∀ L ∈ M, ∀ o ∈ L, o.Fit := by
  obtain ⟨c, rfl, hwd⟩ := Ad.open_cfw hv h
  refine ⟨c, rfl, hwd, ?_⟩
  obtain ⟨fuel, hf⟩ := h
  obtain ⟨xs, n, _, _, hl, hlen, hg⟩ := DataW.trod_struct Tryz.underlying24 hf
  match xs, hlen with
  | [y0, y1, y2, y3, y4, y5, y6, y7, y8, y9, y10, y11, y12, y13], _ =>
    have s13 : DataW.trod en Tryz.prog W 0 (fun _ => true) true n 22 ((List.drop 13 (Value.agg c.arr).cells.toList).take (Tryz.prog.cellsOf 22)) = ([y0, y1, y2, y3, y4, y5, y6, y7, y8, y9, y10, y11, y12, y13] : List (DataW H × List MemPlace))[13]? := hg 13 _ rfl
    rw [Ad.cellsSl] at s13
    have t13 : DataW.trod en Tryz.prog W 0 (fun _ => true) true n 22 [.slice c.pa c.pn c.pc] = some y13 := s13
    exact cell_progs t13
set_option maxRecDepth 100000 in
theorem open_cfp {H : Type} {en : TypeId × Value → H} {W : World} {r : Reach} {b0 : Nat} {v : Value} {d : DataW H} {q : List MemPlace} (hv : Value.okWide Tryz.prog W r b0 24 v)
    (h : DataW.Trod en Tryz.prog W 0 (fun _ => true) true 24 v d q) : ∃ c : Ad.Cf, v = .agg c.arr ∧ ∃ M : List (List Op), Progs W (.slice c.pa c.pn c.pc) M ∧ ∀ L ∈ M, ∀ o ∈ L, o.Fit := by
  obtain ⟨c, e, _, k⟩ := open_cfpw hv h
  exact ⟨c, e, k⟩

end Go.Proofs.YtcoagmkncjonmaaGreatDoor.Pg
