/- How arguments of the given functions lie in memory: a slice of structs of three integers. No function of the program is spoken of here. -/
import Derived.Test.YtmimhglegkkcbaaArgI
import Derived.Deep.Slices
namespace Go.Proofs.Ytmimhglegkkcbaa.Args
open Go.RowKit Go.Deep Go.ChangeShapes Go.WideShapes
set_option linter.unusedVariables false

/-- a slice of so many structs of three integers -/
def Trips (W : World) (v : Value) (len : Nat) (F : Nat → Int × Int × Int) : Prop :=
  (len = 0 ∧ ∃ a cap, v = .slice a 0 cap) ∨
  (0 < len ∧ len ≤ maxLen ∧ ∃ b off cap, v = .slice (some ⟨b, off, none⟩) len cap ∧ b < W.heap.size ∧
    ∀ i, i < len → W.cell? ⟨b, off + i * 3, none⟩ = some (.int .i64 (F i).1) ∧ W.cell? ⟨b, off + i * 3 + 1, none⟩ = some (.int .i64 (F i).2.1) ∧ W.cell? ⟨b, off + i * 3 + 2, none⟩ = some (.int .i64 (F i).2.2) ∧ (Lit.int .i64 (F i).1).wf = true ∧ (Lit.int .i64 (F i).2.1).wf = true ∧ (Lit.int .i64 (F i).2.2).wf = true)

theorem open_trips {H : Type} {enc : TypeId × Value → H} {P : Program} {W : World} {T E : TypeId} {f0 f1 f2 : Field} (ht : P.underlying T = some (.slice E)) (he : P.underlying E = some (.struct #[f0, f1, f2]))
    (ce : P.cellsOf E = 3) (o0 : f0.offset = 0) (o1 : f1.offset = 1) (o2 : f2.offset = 2) (c0 : P.cellsOf f0.type = 1) (c1 : P.cellsOf f1.type = 1) (c2 : P.cellsOf f2.type = 1)
    (i0 : P.underlying f0.type = some (.int .i64)) (i1 : P.underlying f1.type = some (.int .i64)) (i2 : P.underlying f2.type = some (.int .i64))
    {r : Reach} {b0 : Nat} {v : Value} {d : DataW H} {p : List MemPlace} (hv : Value.okWide P W r b0 T v) (h : DataW.Trod enc P W 0 (fun _ => true) true T v d p) : ∃ len F, Trips W v len F := by
  obtain ⟨a0, len0, cap0, rfl⟩ := okWide_slice ht hv
  obtain ⟨fuel, hf⟩ := h
  rcases open_slice ht hf with ⟨hcs, hx⟩ | ⟨a, len, cap, m, n, D, Pl, hcs, _, hl, hm, hmm, hx, hall⟩
  · simp [Value.cells] at hcs
    obtain ⟨rfl, rfl, rfl⟩ := hcs
    exact ⟨0, fun _ => (0, 0, 0), .inl ⟨rfl, _, _, rfl⟩⟩
  · simp [Value.cells] at hcs
    obtain ⟨rfl, rfl, rfl⟩ := hcs
    simp only [if_true] at hmm
    by_cases h0 : len0 = 0
    · subst h0; exact ⟨0, fun _ => (0, 0, 0), .inl ⟨rfl, _, _, rfl⟩⟩
    · have hcell : ∀ i, i < len0 → ∃ z : Int × Int × Int, W.cell? (a.add (i * 3)) = some (.int .i64 z.1) ∧ W.cell? (a.add (i * 3 + 1)) = some (.int .i64 z.2.1) ∧ W.cell? (a.add (i * 3 + 2)) = some (.int .i64 z.2.2) ∧ (Lit.int .i64 z.1).wf = true ∧ (Lit.int .i64 z.2.1).wf = true ∧ (Lit.int .i64 z.2.2).wf = true := fun i hi => by
        obtain ⟨cs', h1, h2⟩ := hall i (by omega)
        rw [ce] at h1
        obtain ⟨_, hlen, hcell⟩ := World.cells?_some h1
        obtain ⟨xs, k, hk, hxy, _, hxl, hf⟩ := DataW.trod_struct he h2
        match xs, hxl, cs', hlen with
        | [y0, y1, y2], _, [v0, v1, v2], _ =>
          have g0 := hf 0 f0 rfl
          have g1 := hf 1 f1 rfl
          have g2 := hf 2 f2 rfl
          simp [o0, o1, o2, c0, c1, c2] at g0 g1 g2
          have e0 := hcell 0 (by omega)
          have e1 := hcell 1 (by omega)
          have e2 := hcell 2 (by omega)
          rw [add_add] at e0 e1 e2
          obtain ⟨x, p0, _, w0⟩ := DataW.trod_int i0 g0
          obtain ⟨y, p1, _, w1⟩ := DataW.trod_int i1 g1
          obtain ⟨z, p2, _, w2⟩ := DataW.trod_int i2 g2
          simp only [List.cons.injEq, and_true] at p0 p1 p2
          subst p0; subst p1; subst p2
          exact ⟨(x, y, z), by simpa using e0, by simpa using e1, by simpa using e2, w0, w1, w2⟩
      obtain ⟨b, off, spot⟩ := a
      obtain ⟨F, hF⟩ := choose_lt hcell
      have hspot : spot = none := by simpa [Addr.add] using World.cell?_spot (hF 0 (by omega)).1
      subst hspot
      have hF2 : ∀ i, i < len0 → W.cell? ⟨b, off + i * 3, none⟩ = some (.int .i64 (F i).1) ∧ W.cell? ⟨b, off + i * 3 + 1, none⟩ = some (.int .i64 (F i).2.1) ∧ W.cell? ⟨b, off + i * 3 + 2, none⟩ = some (.int .i64 (F i).2.2) ∧ (Lit.int .i64 (F i).1).wf = true ∧ (Lit.int .i64 (F i).2.1).wf = true ∧ (Lit.int .i64 (F i).2.2).wf = true := fun i hi => by
        have := hF i hi
        rw [add_plain, add_plain, add_plain] at this
        exact this
      exact ⟨len0, F, .inr ⟨by omega, by omega, b, off, cap0, rfl, cell_in (hF2 0 (by omega)).1, hF2⟩⟩

section
variable {W : World} {v : Value} {len : Nat} {F : Nat → Int × Int × Int}
theorem trips_len {T E : TypeId} (ht : Try.prog.underlying T = some (.slice E)) (h : Trips W v len F) (ty : TypeId) (u : World) : (Builtin.len_ #[T] ty #[v]).run Try.prog u = .ok (.int .i64 (len : Int)) u := by
  rcases h with ⟨h0, a, cap, e⟩ | ⟨_, _, b, off, cap, e, _⟩
  · subst h0; subst e; simp [Builtin.len_, run_underlying ht, goInt]
  · subst e; simp [Builtin.len_, run_underlying ht, goInt]
theorem trips_at (h : Trips W v len F) {k : Nat} (hk : k < len) : ∃ b off cap, v = .slice (some ⟨b, off, none⟩) len cap ∧ ((Lit.int .i64 (F k).1).wf = true ∧ (Lit.int .i64 (F k).2.1).wf = true ∧ (Lit.int .i64 (F k).2.2).wf = true) ∧ ∀ u, St.Kept W u → u.cell? ⟨b, off + k * 3, none⟩ = some (.int .i64 (F k).1) ∧ u.cell? ⟨b, off + k * 3 + 1, none⟩ = some (.int .i64 (F k).2.1) ∧ u.cell? ⟨b, off + k * 3 + 2, none⟩ = some (.int .i64 (F k).2.2) := by
  rcases h with ⟨h0, _⟩ | ⟨_, _, b, off, cap, e, hb, hc⟩
  · omega
  · obtain ⟨h1, h2, h3, h4⟩ := hc k hk
    exact ⟨b, off, cap, e, h4, fun u hu => ⟨(Below.cell hu (p := ⟨b, _, none⟩) hb).trans h1, (Below.cell hu (p := ⟨b, _, none⟩) hb).trans h2, (Below.cell hu (p := ⟨b, _, none⟩) hb).trans h3⟩⟩
end

end Go.Proofs.Ytmimhglegkkcbaa.Args
