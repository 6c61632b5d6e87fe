/- Deeds as an argument: a key and two times each; identities and keys as arguments. -/
import Derived.Test.YthnjfkikepohcaaArgG
import Derived.Test.YthnjfkikepohcaaKy
import Derived.Test.YthnjfkikepohcaaSeM
namespace Go.Proofs.Ythnjfkikepohcaa.Se
open Go.RowKit Go.Deep Go.ChangeShapes Go.WideShapes IdM Args
open St (Kept)
set_option linter.unusedVariables false

/-- a slice of so many deeds -/
def Dds (W : World) (v : Value) (len : Nat) (G : Nat → Ke × Int × Int) : Prop :=
  (len = 0 ∧ ∃ a cap, v = .slice a 0 cap) ∨
  (0 < len ∧ len ≤ maxLen ∧ ∃ b off cap, v = .slice (some ⟨b, off, none⟩) len cap ∧ b < W.heap.size ∧
    ∀ i, i < len → okK (G i).1 ∧ W.cell? ⟨b, off + i * 6, none⟩ = some (.int .i64 (G i).1.n) ∧ W.cell? ⟨b, off + i * 6 + 1, none⟩ = some (.int .i64 (G i).1.i) ∧ W.cell? ⟨b, off + i * 6 + 2, none⟩ = some (.int .i64 (G i).1.s) ∧ W.cell? ⟨b, off + i * 6 + 3, none⟩ = some (.int .i64 (G i).1.a) ∧ W.cell? ⟨b, off + i * 6 + 4, none⟩ = some (.int .i64 (G i).2.1) ∧ W.cell? ⟨b, off + i * 6 + 5, none⟩ = some (.int .i64 (G i).2.2))
theorem rws_dds {W : World} {v : Value} {len : Nat} {F : Nat → List Int} (h : Rws W v 6 len F) : ∃ G, Dds W v len G := by
  rcases h with ⟨h0, h1⟩ | ⟨h0, hm, b, off, cap, hv, hb, hF⟩
  · exact ⟨fun _ => (default, 0, 0), .inl ⟨h0, h1⟩⟩
  · have : ∀ i, i < len → ∃ g : Ke × Int × Int, okK g.1 ∧ W.cell? ⟨b, off + i * 6, none⟩ = some (.int .i64 g.1.n) ∧ W.cell? ⟨b, off + i * 6 + 1, none⟩ = some (.int .i64 g.1.i) ∧ W.cell? ⟨b, off + i * 6 + 2, none⟩ = some (.int .i64 g.1.s) ∧ W.cell? ⟨b, off + i * 6 + 3, none⟩ = some (.int .i64 g.1.a) ∧ W.cell? ⟨b, off + i * 6 + 4, none⟩ = some (.int .i64 g.2.1) ∧ W.cell? ⟨b, off + i * 6 + 5, none⟩ = some (.int .i64 g.2.2) := fun i hi => by
      obtain ⟨h1, h2, h3⟩ := hF i hi
      match F i, h1, h2, h3 with
      | [n, i', s, a, u, t], _, h2, h3 =>
        exact ⟨(⟨n, i', s, a⟩, u, t), ⟨h2 n (by simp), h2 i' (by simp), h2 s (by simp), h2 a (by simp)⟩, h3 0 n rfl, h3 1 i' rfl, h3 2 s rfl, h3 3 a rfl, h3 4 u rfl, h3 5 t rfl⟩
    obtain ⟨G, hG⟩ := choose_lt this
    exact ⟨G, .inr ⟨h0, hm, b, off, cap, hv, hb, hG⟩⟩
theorem dds_len {W : World} {v : Value} {len : Nat} {G : Nat → Ke × Int × Int} (h : Dds W v len G) (ty : TypeId) (u : World) : (Builtin.len_ #[22] ty #[v]).run Try.prog u = .ok (.int .i64 (len : Int)) u := by
  rcases h with ⟨rfl, a, cap, rfl⟩ | ⟨_, _, b, off, cap, rfl, _⟩
  · simp [Builtin.len_, run_underlying Try.underlying22, goInt]
  · simp [Builtin.len_, run_underlying Try.underlying22, goInt]
/-- the i-th deed, in whatever world that keeps what was there -/
theorem dds_at {W : World} {v : Value} {len : Nat} {G : Nat → Ke × Int × Int} (h : Dds W v len G) {i : Nat} (hi : i < len) {n q a u t j : Int} (hG : G i = (⟨n, j, q, a⟩, u, t)) : ∃ b off cap, v = .slice (some ⟨b, off, none⟩) len cap ∧ okK ⟨n, j, q, a⟩ ∧
    ∀ w, Kept W w → w.cell? ⟨b, off + i * 6, none⟩ = some (.int .i64 n) ∧ w.cell? ⟨b, off + i * 6 + 1, none⟩ = some (.int .i64 j) ∧ w.cell? ⟨b, off + i * 6 + 2, none⟩ = some (.int .i64 q) ∧ w.cell? ⟨b, off + i * 6 + 3, none⟩ = some (.int .i64 a) ∧ w.cell? ⟨b, off + i * 6 + 4, none⟩ = some (.int .i64 u) ∧ w.cell? ⟨b, off + i * 6 + 5, none⟩ = some (.int .i64 t) := by
  rcases h with ⟨rfl, _⟩ | ⟨_, _, b, off, cap, rfl, hb, hF⟩
  · omega
  · obtain ⟨h0, h1, h2, h3, h4, h5, h6⟩ := hF i hi
    rw [hG] at h0 h1 h2 h3 h4 h5 h6
    have on : ∀ {w : World} {o : Nat} {x : Value}, Kept W w → W.cell? ⟨b, o, none⟩ = some x → w.cell? ⟨b, o, none⟩ = some x := fun hk hc => (Below.cell hk (p := ⟨b, _, none⟩) hb).trans hc
    exact ⟨b, off, cap, rfl, h0, fun w hk => ⟨on hk h1, on hk h2, on hk h3, on hk h4, on hk h5, on hk h6⟩⟩

open Ky in
set_option maxRecDepth 100000 in
theorem ints_deed : AllInts Try.prog 34 6 := by
  intro H enc W n cs y hf hl
  match cs, hl with
  | [c0, c1, c2, c3, c4, c5], _ =>
    obtain ⟨y0, y1, y2, m, _, _, t0, t1, t2⟩ := trod_struct3 Try.underlying34 hf
    simp only [cells4, cells1, List.drop, List.take] at t0 t1 t2
    obtain ⟨x0, x1, m1, _, _, s0, s1⟩ := trod_struct2 Try.underlying32 t0
    simp only [cells3, cells1, List.drop, List.take] at s0 s1
    obtain ⟨z0, z1, z2, m2, _, _, u0, u1, u2⟩ := trod_struct3 Try.underlying30 s0
    simp only [cells1, List.drop, List.take] at u0 u1 u2
    obtain ⟨n, h0, _, w0⟩ := DataW.trod_int Try.underlying3 u0
    obtain ⟨i, h1, _, w1⟩ := DataW.trod_int Try.underlying3 u1
    obtain ⟨s, h2, _, w2⟩ := DataW.trod_int Try.underlying3 u2
    obtain ⟨a, h3, _, w3⟩ := DataW.trod_int Try.underlying3 s1
    obtain ⟨k, h4, _, w4⟩ := DataW.trod_int Try.underlying3 t1
    obtain ⟨t, h5, _, w5⟩ := DataW.trod_int Try.underlying3 t2
    simp only [List.cons.injEq, and_true] at h0 h1 h2 h3 h4 h5
    subst h0; subst h1; subst h2; subst h3; subst h4; subst h5
    refine ⟨[n, i, s, a, k, t], rfl, fun x hx => ?_⟩
    simp only [List.mem_cons, List.not_mem_nil, or_false] at hx
    rcases hx with rfl | rfl | rfl | rfl | rfl | rfl <;> exact i64_of (by assumption)

section
variable {H : Type} {enc : TypeId × Value → H} {W : World} {r : Reach} {b0 : Nat} {v : Value} {d : DataW H} {q : List MemPlace}
set_option maxRecDepth 100000 in
theorem open_dds (hv : Value.okWide Try.prog W r b0 22 v) (h : DataW.Trod enc Try.prog W 0 (fun _ => true) true 22 v d q) : ∃ len G, Dds W v len G := by
  obtain ⟨len, F, h1⟩ := open_rws Try.underlying22 (by kernel_rfl) (by omega) ints_deed hv h
  obtain ⟨G, hG⟩ := rws_dds h1
  exact ⟨len, G, hG⟩
open Ky in
set_option maxRecDepth 100000 in
theorem open_id (hv : Value.okWide Try.prog W r b0 30 v) (h : DataW.Trod enc Try.prog W 0 (fun _ => true) true 30 v d q) :
    ∃ n i s : Int, v = .agg #[.int .i64 n, .int .i64 i, .int .i64 s] ∧ I64 n ∧ I64 i ∧ I64 s := by
  obtain ⟨cs, rfl, hcs⟩ := okWide_struct Try.underlying30 hv
  rw [cells3] at hcs
  obtain ⟨fuel, hf⟩ := h
  obtain ⟨l⟩ := cs
  match l, hcs with
  | [c0, c1, c2], _ =>
    obtain ⟨z0, z1, z2, m2, _, _, u0, u1, u2⟩ := trod_struct3 Try.underlying30 hf
    simp only [cells1, Value.cells, List.drop, List.take] at u0 u1 u2
    obtain ⟨n, h0, _, w0⟩ := DataW.trod_int Try.underlying3 u0
    obtain ⟨i, h1, _, w1⟩ := DataW.trod_int Try.underlying3 u1
    obtain ⟨s, h2, _, w2⟩ := DataW.trod_int Try.underlying3 u2
    simp only [List.cons.injEq, and_true] at h0 h1 h2
    subst h0; subst h1; subst h2
    exact ⟨n, i, s, rfl, i64_of w0, i64_of w1, i64_of w2⟩
end

end Go.Proofs.Ythnjfkikepohcaa.Se
