/- How arguments of the given functions lie in memory: a slice of structs that hold integers alone, however nested. No function of the program is spoken of here. -/
import Derived.Test.YthnjfkikepohcaaIdM0
import Derived.Test.YthnjfkikepohcaaArgI
import Derived.Deep.Slices
namespace Go.Proofs.Ythnjfkikepohcaa.Args
open Go.RowKit Go.Deep Go.ChangeShapes Go.WideShapes IdM
set_option linter.unusedVariables false

/-- a struct that holds integers alone reads as so many of them -/
def AllInts (P : Program) (E : TypeId) (k : Nat) : Prop := ∀ {H : Type} {enc : TypeId × Value → H} {W : World} {n : Nat} {cs : List Value} {y : DataW H × List MemPlace}, DataW.trod enc P W 0 (fun _ => true) true n E cs = some y → cs.length = k → ∃ l : List Int, cs = l.map (Value.int .i64) ∧ ∀ x ∈ l, I64 x

/-- a slice of so many structs of k integers -/
def Rws (W : World) (v : Value) (k len : Nat) (F : Nat → List Int) : Prop :=
  (len = 0 ∧ ∃ a cap, v = .slice a 0 cap) ∨
  (0 < len ∧ len ≤ maxLen ∧ ∃ b off cap, v = .slice (some ⟨b, off, none⟩) len cap ∧ b < W.heap.size ∧
    ∀ i, i < len → (F i).length = k ∧ (∀ x ∈ F i, I64 x) ∧ ∀ j x, (F i)[j]? = some x → W.cell? ⟨b, off + i * k + j, none⟩ = some (.int .i64 x))

theorem open_rws {H : Type} {enc : TypeId × Value → H} {P : Program} {W : World} {T E : TypeId} {k : Nat} (ht : P.underlying T = some (.slice E)) (ce : P.cellsOf E = k) (hk : 0 < k) (hE : AllInts P E k)
    {r : Reach} {b0 : Nat} {v : Value} {d : DataW H} {p : List MemPlace} (hv : Value.okWide P W r b0 T v) (h : DataW.Trod enc P W 0 (fun _ => true) true T v d p) : ∃ len F, Rws W v k len F := by
  obtain ⟨a0, len0, cap0, rfl⟩ := okWide_slice ht hv
  obtain ⟨fuel, hf⟩ := h
  rcases open_slice ht hf with ⟨hcs, hx⟩ | ⟨a, len, cap, m, n, D, Pl, hcs, _, hl, hm, hmm, hx, hall⟩
  · simp [Value.cells] at hcs
    obtain ⟨rfl, rfl, rfl⟩ := hcs
    exact ⟨0, fun _ => [], .inl ⟨rfl, _, _, rfl⟩⟩
  · simp [Value.cells] at hcs
    obtain ⟨rfl, rfl, rfl⟩ := hcs
    simp only [if_true] at hmm
    by_cases h0 : len0 = 0
    · subst h0; exact ⟨0, fun _ => [], .inl ⟨rfl, _, _, rfl⟩⟩
    · have hcell : ∀ i, i < len0 → ∃ l : List Int, l.length = k ∧ (∀ x ∈ l, I64 x) ∧ ∀ j x, l[j]? = some x → W.cell? (a.add (i * k + j)) = some (.int .i64 x) := fun i hi => by
        obtain ⟨cs', h1, h2⟩ := hall i (by omega)
        rw [ce] at h1
        obtain ⟨_, hlen, hcell⟩ := World.cells?_some h1
        obtain ⟨l, rfl, hl2⟩ := hE h2 hlen
        rw [List.length_map] at hlen
        refine ⟨l, hlen, hl2, fun j x hj => ?_⟩
        have hjl : j < k := by rw [← hlen]; exact (List.getElem?_eq_some_iff.1 hj).1
        have := hcell j hjl
        rw [add_add] at this
        rw [this]
        simp [hj]
      obtain ⟨b, off, spot⟩ := a
      obtain ⟨F, hF⟩ := choose_lt hcell
      have hne : ∃ x, (F 0)[0]? = some x := ⟨_, List.getElem?_eq_getElem (by rw [(hF 0 (by omega)).1]; exact hk)⟩
      obtain ⟨x0, hx0⟩ := hne
      have hspot : spot = none := by simpa [Addr.add] using World.cell?_spot ((hF 0 (by omega)).2.2 0 x0 hx0)
      subst hspot
      have hF2 : ∀ i, i < len0 → (F i).length = k ∧ (∀ x ∈ F i, I64 x) ∧ ∀ j x, (F i)[j]? = some x → W.cell? ⟨b, off + i * k + j, none⟩ = some (.int .i64 x) := fun i hi => by
        obtain ⟨q1, q2, q3⟩ := hF i hi
        refine ⟨q1, q2, fun j x hj => ?_⟩
        have := q3 j x hj
        rw [add_plain] at this
        rw [Nat.add_assoc]; exact this
      exact ⟨len0, F, .inr ⟨by omega, by omega, b, off, cap0, rfl, cell_in ((hF2 0 (by omega)).2.2 0 x0 hx0), hF2⟩⟩

end Go.Proofs.Ythnjfkikepohcaa.Args
