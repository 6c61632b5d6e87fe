/- How arguments of the given functions lie in memory: a slice of structs that hold integers alone, however nested; of alarms; of deeds. -/
import Derived.Test.YtckmkagijanbdaaArgN
import Derived.Test.YtckmkagijanbdaaArgI
import Derived.Deep.Slices
namespace Go.Proofs.Ytckmkagijanbdaa.Args
open Go.RowKit Go.Deep Go.ChangeShapes Go.WideShapes IdM
set_option linter.unusedVariables false

/-- a struct that holds integers alone reads as so many of them -/
def AllInts (P : Program) (E : TypeId) (k : Nat) : Prop := ∀ {H : Type} {enc : TypeId × Value → H} {W : World} {n : Nat} {cs : List Value} {y : DataW H × List MemPlace}, DataW.trod enc P W 0 (fun _ => true) true n E cs = some y → cs.length = k → ∃ l : List Int, cs = l.map (Value.int .i64) ∧ ∀ x ∈ l, I64 x

/-- a slice of so many structs of k integers -/
def Rws (W : World) (v : Value) (k len : Nat) (F : Nat → List Int) : Prop :=
  (len = 0 ∧ ∃ a cap, v = .slice a 0 cap) ∨
  (0 < len ∧ len ≤ maxLen ∧ ∃ b off cap, v = .slice (some ⟨b, off, none⟩) len cap ∧ b < W.heap.size ∧
    ∀ i, i < len → (F i).length = k ∧ (∀ x ∈ F i, I64 x) ∧ ∀ j x, (F i)[j]? = some x → W.cell? ⟨b, off + i * k + j, none⟩ = some (.int .i64 x))

theorem open_rws {H : Type} {enc : TypeId × Value → H} {P : Program} {W : World} {T E : TypeId} {k : Nat} (ht : P.underlying T = some (.slice E)) (ce : P.cellsOf E = k) (hk : 0 < k) (hE : AllInts P E k)
    {r : Reach} {b0 : Nat} {v : Value} {d : DataW H} {p : List MemPlace} (hv : Value.okWide P W r b0 T v) (h : DataW.Trod enc P W 0 (fun _ => true) true T v d p) : ∃ len F, Rws W v k len F := by
  obtain ⟨a0, len0, cap0, rfl⟩ := okWide_slice ht hv
  obtain ⟨fuel, hf⟩ := h
  rcases open_slice ht hf with ⟨hcs, hx⟩ | ⟨a, len, cap, m, n, D, Pl, hcs, _, hl, hm, hmm, hx, hall⟩
  · simp [Value.cells] at hcs
    obtain ⟨rfl, rfl, rfl⟩ := hcs
    exact ⟨0, fun _ => [], .inl ⟨rfl, _, _, rfl⟩⟩
  · simp [Value.cells] at hcs
    obtain ⟨rfl, rfl, rfl⟩ := hcs
    simp only [if_true] at hmm
    by_cases h0 : len0 = 0
    · subst h0; exact ⟨0, fun _ => [], .inl ⟨rfl, _, _, rfl⟩⟩
    · have hcell : ∀ i, i < len0 → ∃ l : List Int, l.length = k ∧ (∀ x ∈ l, I64 x) ∧ ∀ j x, l[j]? = some x → W.cell? (a.add (i * k + j)) = some (.int .i64 x) := fun i hi => by
        obtain ⟨cs', h1, h2⟩ := hall i (by omega)
        rw [ce] at h1
        obtain ⟨_, hlen, hcell⟩ := World.cells?_some h1
        obtain ⟨l, rfl, hl2⟩ := hE h2 hlen
        rw [List.length_map] at hlen
        refine ⟨l, hlen, hl2, fun j x hj => ?_⟩
        have hjl : j < k := by rw [← hlen]; exact (List.getElem?_eq_some_iff.1 hj).1
        have := hcell j hjl
        rw [add_add] at this
        rw [this]
        simp [hj]
      obtain ⟨b, off, spot⟩ := a
      obtain ⟨F, hF⟩ := choose_lt hcell
      have hne : ∃ x, (F 0)[0]? = some x := ⟨_, List.getElem?_eq_getElem (by rw [(hF 0 (by omega)).1]; exact hk)⟩
      obtain ⟨x0, hx0⟩ := hne
      have hspot : spot = none := by simpa [Addr.add] using World.cell?_spot ((hF 0 (by omega)).2.2 0 x0 hx0)
      subst hspot
      have hF2 : ∀ i, i < len0 → (F i).length = k ∧ (∀ x ∈ F i, I64 x) ∧ ∀ j x, (F i)[j]? = some x → W.cell? ⟨b, off + i * k + j, none⟩ = some (.int .i64 x) := fun i hi => by
        obtain ⟨q1, q2, q3⟩ := hF i hi
        refine ⟨q1, q2, fun j x hj => ?_⟩
        have := q3 j x hj
        rw [add_plain] at this
        rw [Nat.add_assoc]; exact this
      exact ⟨len0, F, .inr ⟨by omega, by omega, b, off, cap0, rfl, cell_in ((hF2 0 (by omega)).2.2 0 x0 hx0), hF2⟩⟩

/-- a slice of so many alarms -/
def Als (W : World) (v : Value) (len : Nat) (G : Nat → Al.Nm × Int) : Prop :=
  (len = 0 ∧ ∃ a cap, v = .slice a 0 cap) ∨
  (0 < len ∧ len ≤ maxLen ∧ ∃ b off cap, v = .slice (some ⟨b, off, none⟩) len cap ∧ b < W.heap.size ∧
    ∀ i, i < len → Al.okN (G i).1 ∧ W.cell? ⟨b, off + i * 6, none⟩ = some (.int .i64 (G i).1.n) ∧ W.cell? ⟨b, off + i * 6 + 1, none⟩ = some (.int .i64 (G i).1.i) ∧ W.cell? ⟨b, off + i * 6 + 2, none⟩ = some (.int .i64 (G i).1.s) ∧ W.cell? ⟨b, off + i * 6 + 3, none⟩ = some (.int .i64 (G i).1.a) ∧ W.cell? ⟨b, off + i * 6 + 4, none⟩ = some (.int .i64 (G i).1.k) ∧ W.cell? ⟨b, off + i * 6 + 5, none⟩ = some (.int .i64 (G i).2))
theorem rws_als {W : World} {v : Value} {len : Nat} {F : Nat → List Int} (h : Rws W v 6 len F) : ∃ G, Als W v len G := by
  rcases h with ⟨h0, h1⟩ | ⟨h0, hm, b, off, cap, hv, hb, hF⟩
  · exact ⟨fun _ => (default, 0), .inl ⟨h0, h1⟩⟩
  · have : ∀ i, i < len → ∃ g : Al.Nm × Int, Al.okN g.1 ∧ W.cell? ⟨b, off + i * 6, none⟩ = some (.int .i64 g.1.n) ∧ W.cell? ⟨b, off + i * 6 + 1, none⟩ = some (.int .i64 g.1.i) ∧ W.cell? ⟨b, off + i * 6 + 2, none⟩ = some (.int .i64 g.1.s) ∧ W.cell? ⟨b, off + i * 6 + 3, none⟩ = some (.int .i64 g.1.a) ∧ W.cell? ⟨b, off + i * 6 + 4, none⟩ = some (.int .i64 g.1.k) ∧ W.cell? ⟨b, off + i * 6 + 5, none⟩ = some (.int .i64 g.2) := fun i hi => by
      obtain ⟨h1, h2, h3⟩ := hF i hi
      match F i, h1, h2, h3 with
      | [n, i', s, a, k, t], _, h2, h3 =>
        exact ⟨(⟨n, i', s, a, k⟩, t), ⟨h2 n (by simp), h2 i' (by simp), h2 s (by simp), h2 a (by simp), h2 k (by simp)⟩, h3 0 n rfl, h3 1 i' rfl, h3 2 s rfl, h3 3 a rfl, h3 4 k rfl, h3 5 t rfl⟩
    obtain ⟨G, hG⟩ := choose_lt this
    exact ⟨G, .inr ⟨h0, hm, b, off, cap, hv, hb, hG⟩⟩
theorem als_len {W : World} {v : Value} {len : Nat} {G : Nat → Al.Nm × Int} (h : Als W v len G) (ty : TypeId) (u : World) : (Builtin.len_ #[37] ty #[v]).run Try.prog u = .ok (.int .i64 (len : Int)) u := by
  rcases h with ⟨rfl, a, cap, rfl⟩ | ⟨_, _, b, off, cap, rfl, _⟩
  · simp [Builtin.len_, run_underlying Try.underlying37, goInt]
  · simp [Builtin.len_, run_underlying Try.underlying37, goInt]

/-- a slice of so many deeds: a kind, a name, a time -/
def Dls (W : World) (v : Value) (len : Nat) (G : Nat → Int × Al.Nm × Int) : Prop :=
  (len = 0 ∧ ∃ a cap, v = .slice a 0 cap) ∨
  (0 < len ∧ len ≤ maxLen ∧ ∃ b off cap, v = .slice (some ⟨b, off, none⟩) len cap ∧ b < W.heap.size ∧
    ∀ i, i < len → Al.okN (G i).2.1 ∧ W.cell? ⟨b, off + i * 7, none⟩ = some (.int .i64 (G i).1) ∧ W.cell? ⟨b, off + i * 7 + 1, none⟩ = some (.int .i64 (G i).2.1.n) ∧ W.cell? ⟨b, off + i * 7 + 2, none⟩ = some (.int .i64 (G i).2.1.i) ∧ W.cell? ⟨b, off + i * 7 + 3, none⟩ = some (.int .i64 (G i).2.1.s) ∧ W.cell? ⟨b, off + i * 7 + 4, none⟩ = some (.int .i64 (G i).2.1.a) ∧ W.cell? ⟨b, off + i * 7 + 5, none⟩ = some (.int .i64 (G i).2.1.k) ∧ W.cell? ⟨b, off + i * 7 + 6, none⟩ = some (.int .i64 (G i).2.2))
theorem rws_dls {W : World} {v : Value} {len : Nat} {F : Nat → List Int} (h : Rws W v 7 len F) : ∃ G, Dls W v len G := by
  rcases h with ⟨h0, h1⟩ | ⟨h0, hm, b, off, cap, hv, hb, hF⟩
  · exact ⟨fun _ => (0, default, 0), .inl ⟨h0, h1⟩⟩
  · have : ∀ i, i < len → ∃ g : Int × Al.Nm × Int, Al.okN g.2.1 ∧ W.cell? ⟨b, off + i * 7, none⟩ = some (.int .i64 g.1) ∧ W.cell? ⟨b, off + i * 7 + 1, none⟩ = some (.int .i64 g.2.1.n) ∧ W.cell? ⟨b, off + i * 7 + 2, none⟩ = some (.int .i64 g.2.1.i) ∧ W.cell? ⟨b, off + i * 7 + 3, none⟩ = some (.int .i64 g.2.1.s) ∧ W.cell? ⟨b, off + i * 7 + 4, none⟩ = some (.int .i64 g.2.1.a) ∧ W.cell? ⟨b, off + i * 7 + 5, none⟩ = some (.int .i64 g.2.1.k) ∧ W.cell? ⟨b, off + i * 7 + 6, none⟩ = some (.int .i64 g.2.2) := fun i hi => by
      obtain ⟨h1, h2, h3⟩ := hF i hi
      match F i, h1, h2, h3 with
      | [q, n, i', s, a, k, t], _, h2, h3 =>
        exact ⟨(q, ⟨n, i', s, a, k⟩, t), ⟨h2 n (by simp), h2 i' (by simp), h2 s (by simp), h2 a (by simp), h2 k (by simp)⟩, h3 0 q rfl, h3 1 n rfl, h3 2 i' rfl, h3 3 s rfl, h3 4 a rfl, h3 5 k rfl, h3 6 t rfl⟩
    obtain ⟨G, hG⟩ := choose_lt this
    exact ⟨G, .inr ⟨h0, hm, b, off, cap, hv, hb, hG⟩⟩
theorem dls_len {W : World} {v : Value} {len : Nat} {G : Nat → Int × Al.Nm × Int} (h : Dls W v len G) (ty : TypeId) (u : World) : (Builtin.len_ #[22] ty #[v]).run Try.prog u = .ok (.int .i64 (len : Int)) u := by
  rcases h with ⟨rfl, a, cap, rfl⟩ | ⟨_, _, b, off, cap, rfl, _⟩
  · simp [Builtin.len_, run_underlying Try.underlying22, goInt]
  · simp [Builtin.len_, run_underlying Try.underlying22, goInt]

open Ky in
set_option maxRecDepth 100000 in
theorem ints_name : AllInts Try.prog 33 5 := by
  intro H enc W n cs y hf hl
  match cs, hl with
  | [c0, c1, c2, c3, c4], _ =>
    obtain ⟨y0, y1, m, _, _, t0, t1⟩ := trod_struct2 Try.underlying33 hf
    simp only [cells4, cells1, List.drop, List.take] at t0 t1
    obtain ⟨x0, x1, m1, _, _, s0, s1⟩ := trod_struct2 Try.underlying31 t0
    simp only [cells3, cells1, List.drop, List.take] at s0 s1
    obtain ⟨z0, z1, z2, m2, _, _, u0, u1, u2⟩ := trod_struct3 Try.underlying29 s0
    simp only [cells1, List.drop, List.take] at u0 u1 u2
    obtain ⟨n, h0, _, w0⟩ := DataW.trod_int Try.underlying3 u0
    obtain ⟨i, h1, _, w1⟩ := DataW.trod_int Try.underlying3 u1
    obtain ⟨s, h2, _, w2⟩ := DataW.trod_int Try.underlying3 u2
    obtain ⟨a, h3, _, w3⟩ := DataW.trod_int Try.underlying3 s1
    obtain ⟨k, h4, _, w4⟩ := DataW.trod_int Try.underlying3 t1
    simp only [List.cons.injEq, and_true] at h0 h1 h2 h3 h4
    subst h0; subst h1; subst h2; subst h3; subst h4
    refine ⟨[n, i, s, a, k], rfl, fun x hx => ?_⟩
    simp only [List.mem_cons, List.not_mem_nil, or_false] at hx
    rcases hx with rfl | rfl | rfl | rfl | rfl <;> exact i64_of (by assumption)
open Ky in
set_option maxRecDepth 100000 in
theorem ints_alarm : AllInts Try.prog 45 6 := by
  intro H enc W n cs y hf hl
  match cs, hl with
  | [c0, c1, c2, c3, c4, c5], _ =>
    obtain ⟨y0, y1, m, _, _, t0, t1⟩ := trod_struct2 Try.underlying45 hf
    simp only [cells5, cells1, List.drop, List.take] at t0 t1
    obtain ⟨l, hl, hw⟩ := ints_name t0 rfl
    obtain ⟨t, h5, _, w5⟩ := DataW.trod_int Try.underlying3 t1
    simp only [List.cons.injEq, and_true] at h5
    subst h5
    refine ⟨l ++ [t], by rw [List.map_append, ← hl]; rfl, fun x hx => ?_⟩
    rcases List.mem_append.1 hx with hx | hx
    · exact hw x hx
    · rw [List.mem_singleton.1 hx]; exact i64_of w5
open Ky in
set_option maxRecDepth 100000 in
theorem ints_deed : AllInts Try.prog 35 7 := by
  intro H enc W n cs y hf hl
  match cs, hl with
  | [q, c0, c1, c2, c3, c4, c5], _ =>
    obtain ⟨y0, y1, y2, m, _, _, t0, t1, t2⟩ := trod_struct3 Try.underlying35 hf
    simp only [cells5, cells1, List.drop, List.take] at t0 t1 t2
    obtain ⟨l, hl, hw⟩ := ints_name t1 rfl
    obtain ⟨z, h0, _, w0⟩ := DataW.trod_int Try.underlying3 t0
    obtain ⟨t, h5, _, w5⟩ := DataW.trod_int Try.underlying3 t2
    simp only [List.cons.injEq, and_true] at h0 h5
    subst h0
    subst h5
    refine ⟨z :: (l ++ [t]), by rw [List.map_cons, List.map_append, ← hl]; rfl, fun x hx => ?_⟩
    rcases List.mem_cons.1 hx with hx | hx
    · rw [hx]; exact i64_of w0
    · rcases List.mem_append.1 hx with hx | hx
      · exact hw x hx
      · rw [List.mem_singleton.1 hx]; exact i64_of w5

section
variable {H : Type} {enc : TypeId × Value → H} {W : World} {r : Reach} {b0 : Nat} {v : Value} {d : DataW H} {q : List MemPlace}
set_option maxRecDepth 100000 in
theorem open_als (hv : Value.okWide Try.prog W r b0 37 v) (h : DataW.Trod enc Try.prog W 0 (fun _ => true) true 37 v d q) : ∃ len G, Als W v len G := by
  obtain ⟨len, F, h1⟩ := open_rws Try.underlying37 (by kernel_rfl) (by omega) ints_alarm hv h
  obtain ⟨G, hG⟩ := rws_als h1
  exact ⟨len, G, hG⟩
set_option maxRecDepth 100000 in
theorem open_dls (hv : Value.okWide Try.prog W r b0 22 v) (h : DataW.Trod enc Try.prog W 0 (fun _ => true) true 22 v d q) : ∃ len G, Dls W v len G := by
  obtain ⟨len, F, h1⟩ := open_rws Try.underlying22 (by kernel_rfl) (by omega) ints_deed hv h
  obtain ⟨G, hG⟩ := rws_dls h1
  exact ⟨len, G, hG⟩
set_option maxRecDepth 100000 in
theorem open_ints67 (hv : Value.okWide Try.prog W r b0 67 v) (h : DataW.Trod enc Try.prog W 0 (fun _ => true) true 67 v d q) : ∃ len F, Ints W v len F :=
  open_intl Try.underlying67 Try.underlying3 (by kernel_rfl) hv h
end

end Go.Proofs.Ytckmkagijanbdaa.Args
