/- How arguments of the given functions lie in memory: a slice of integers. No function of the program is spoken of here. How arguments of the given functions lie in memory: a slice of structs of whatever cells. No function of the program is spoken of here. -/
import Derived.Test.YtcoagmkncjonmaaGreatDoorSt
import Derived.ChangeSlices
import Derived.ChangeArms
import Derived.WideShapes
import Derived.Carry
import Derived.Deep.Slices
namespace Go.Proofs.YtcoagmkncjonmaaGreatDoor.Args
open Go.RowKit Go.Deep Go.ChangeShapes Go.WideShapes
set_option linter.unusedVariables false

theorem cell_in {w : World} {b o : Nat} {v : Value} (h : w.cell? ⟨b, o, none⟩ = some v) : b < w.heap.size := by
  rcases Nat.lt_or_ge b w.heap.size with h' | h'
  · exact h'
  · simp [World.cell?, Array.getElem?_eq_none h'] at h

/-- a slice of so many integers -/
def Ints (W : World) (v : Value) (len : Nat) (F : Nat → Int) : Prop :=
  (len = 0 ∧ ∃ a cap, v = .slice a 0 cap) ∨
  (0 < len ∧ len ≤ maxLen ∧ ∃ b off cap, v = .slice (some ⟨b, off, none⟩) len cap ∧ b < W.heap.size ∧
    ∀ i, i < len → W.cell? ⟨b, off + i, none⟩ = some (.int .i64 (F i)) ∧ (Lit.int .i64 (F i)).wf = true)

theorem open_intl {H : Type} {enc : TypeId × Value → H} {P : Program} {W : World} {T E : TypeId} (ht : P.underlying T = some (.slice E)) (he : P.underlying E = some (.int .i64)) (ce : P.cellsOf E = 1)
    {r : Reach} {b0 : Nat} {v : Value} {d : DataW H} {p : List MemPlace} (hv : Value.okWide P W r b0 T v) (h : DataW.Trod enc P W 0 (fun _ => true) true T v d p) : ∃ len F, Ints W v len F := by
  obtain ⟨a0, len0, cap0, rfl⟩ := okWide_slice ht hv
  obtain ⟨fuel, hf⟩ := h
  rcases open_ints ht he ce hf with ⟨hcs, hx⟩ | ⟨a, len, cap, zs, hcs, _, hl, hm, hmm, hx, hcell, hwf⟩
  · simp [Value.cells] at hcs
    obtain ⟨rfl, rfl, rfl⟩ := hcs
    exact ⟨0, fun _ => 0, .inl ⟨rfl, _, _, rfl⟩⟩
  · simp [Value.cells] at hcs
    obtain ⟨rfl, rfl, rfl⟩ := hcs
    simp only [if_true] at hmm
    by_cases h0 : len0 = 0
    · subst h0; exact ⟨0, fun _ => 0, .inl ⟨rfl, _, _, rfl⟩⟩
    · obtain ⟨b, off, spot⟩ := a
      have hspot : spot = none := by simpa [Addr.add] using World.cell?_spot (hcell 0 (by omega))
      subst hspot
      refine ⟨len0, fun i => zs.getD i 0, .inr ⟨by omega, by omega, b, off, cap0, rfl, ?_, fun i hi => ⟨?_, ?_⟩⟩⟩
      · have h1 := hcell 0 (by omega)
        rw [add_plain] at h1
        exact cell_in h1
      · have h1 := hcell i (by omega)
        rw [add_plain] at h1
        exact h1
      · refine hwf _ ?_
        show zs.getD i 0 ∈ zs
        rw [List.getD_eq_getElem?_getD, List.getElem?_eq_getElem (by omega)]
        exact List.getElem_mem ..

end Go.Proofs.YtcoagmkncjonmaaGreatDoor.Args

namespace Go.Proofs.YtcoagmkncjonmaaGreatDoor.Args
open Go.RowKit Go.Deep Go.ChangeShapes Go.WideShapes
set_option linter.unusedVariables false

/-- a struct reads as such an element -/
def Reads {α : Type} (P : Program) (E : TypeId) (k : Nat) (enc : α → List Value) (ok : α → Prop) : Prop := ∀ {H : Type} {en : TypeId × Value → H} {W : World} {n : Nat} {cs : List Value} {y : DataW H × List MemPlace}, DataW.trod en P W 0 (fun _ => true) true n E cs = some y → cs.length = k → ∃ a, cs = enc a ∧ ok a

/-- a slice of so many such elements -/
def Lies {α : Type} (W : World) (v : Value) (k : Nat) (enc : α → List Value) (ok : α → Prop) (len : Nat) (F : Nat → α) : Prop :=
  (len = 0 ∧ ∃ a cap, v = .slice a 0 cap) ∨
  (0 < len ∧ len ≤ maxLen ∧ ∃ b off cap, v = .slice (some ⟨b, off, none⟩) len cap ∧ b < W.heap.size ∧
    ∀ i, i < len → ok (F i) ∧ ∀ j x, (enc (F i))[j]? = some x → W.cell? ⟨b, off + i * k + j, none⟩ = some x)

theorem open_lies {α : Type} [Inhabited α] {H : Type} {en : TypeId × Value → H} {P : Program} {W : World} {T E : TypeId} {k : Nat} {enc : α → List Value} {ok : α → Prop} (ht : P.underlying T = some (.slice E)) (ce : P.cellsOf E = k) (hk : 0 < k) (hl : ∀ a, (enc a).length = k) (hE : Reads P E k enc ok)
    {r : Reach} {b0 : Nat} {v : Value} {d : DataW H} {p : List MemPlace} (hv : Value.okWide P W r b0 T v) (h : DataW.Trod en P W 0 (fun _ => true) true T v d p) : ∃ len F, Lies W v k enc ok len F := by
  obtain ⟨a0, len0, cap0, rfl⟩ := okWide_slice ht hv
  obtain ⟨fuel, hf⟩ := h
  rcases open_slice ht hf with ⟨hcs, hx⟩ | ⟨a, len, cap, m, n, D, Pl, hcs, _, hle, hm, hmm, hx, hall⟩
  · simp [Value.cells] at hcs
    obtain ⟨rfl, rfl, rfl⟩ := hcs
    exact ⟨0, fun _ => default, .inl ⟨rfl, _, _, rfl⟩⟩
  · simp [Value.cells] at hcs
    obtain ⟨rfl, rfl, rfl⟩ := hcs
    simp only [if_true] at hmm
    by_cases h0 : len0 = 0
    · subst h0; exact ⟨0, fun _ => default, .inl ⟨rfl, _, _, rfl⟩⟩
    · have hcell : ∀ i, i < len0 → ∃ l : α, ok l ∧ ∀ j x, (enc l)[j]? = some x → W.cell? (a.add (i * k + j)) = some x := fun i hi => by
        obtain ⟨cs', h1, h2⟩ := hall i (by omega)
        rw [ce] at h1
        obtain ⟨_, hlen, hcell⟩ := World.cells?_some h1
        obtain ⟨l, rfl, hl2⟩ := hE h2 hlen
        refine ⟨l, hl2, fun j x hj => ?_⟩
        have hjl : j < k := by rw [← hlen]; exact (List.getElem?_eq_some_iff.1 hj).1
        have := hcell j hjl
        rw [add_add] at this
        rw [this]
        exact hj
      obtain ⟨b, off, spot⟩ := a
      obtain ⟨F, hF⟩ := choose_lt hcell
      obtain ⟨x0, hx0⟩ : ∃ x, (enc (F 0))[0]? = some x := ⟨_, List.getElem?_eq_getElem (by rw [hl]; exact hk)⟩
      have hspot : spot = none := by simpa [Addr.add] using World.cell?_spot ((hF 0 (by omega)).2 0 x0 hx0)
      subst hspot
      have hF2 : ∀ i, i < len0 → ok (F i) ∧ ∀ j x, (enc (F i))[j]? = some x → W.cell? ⟨b, off + i * k + j, none⟩ = some x := fun i hi => by
        obtain ⟨q2, q3⟩ := hF i hi
        refine ⟨q2, fun j x hj => ?_⟩
        have := q3 j x hj
        rw [add_plain] at this
        rw [Nat.add_assoc]; exact this
      exact ⟨len0, F, .inr ⟨by omega, by omega, b, off, cap0, rfl, cell_in ((hF2 0 (by omega)).2 0 x0 hx0), hF2⟩⟩

section
variable {α : Type} {W : World} {v : Value} {k len : Nat} {enc : α → List Value} {ok : α → Prop} {F : Nat → α}
theorem Lies.length {T E : TypeId} (ht : Tryz.prog.underlying T = some (.slice E)) (h : Lies W v k enc ok len F) (ty : TypeId) (u : World) : (Builtin.len_ #[T] ty #[v]).run Tryz.prog u = .ok (.int .i64 (len : Int)) u := by
  rcases h with ⟨h0, a, cap, e⟩ | ⟨_, _, b, off, cap, e, _⟩
  · subst h0; subst e; simp [Builtin.len_, run_underlying ht, goInt]
  · subst e; simp [Builtin.len_, run_underlying ht, goInt]
theorem Lies.most (h : Lies W v k enc ok len F) : len ≤ maxLen := by
  rcases h with ⟨h0, _⟩ | ⟨_, h1, _⟩
  · rw [h0]; exact Nat.zero_le _
  · exact h1
theorem Lies.at (h : Lies W v k enc ok len F) {i : Nat} (hi : i < len) : ∃ b off cap, v = .slice (some ⟨b, off, none⟩) len cap ∧ ok (F i) ∧ ∀ u, St.Kept W u → ∀ j x, (enc (F i))[j]? = some x → u.cell? ⟨b, off + i * k + j, none⟩ = some x := by
  rcases h with ⟨h0, _⟩ | ⟨_, _, b, off, cap, e, hb, hc⟩
  · omega
  · obtain ⟨h1, h2⟩ := hc i hi
    exact ⟨b, off, cap, e, h1, fun u hu j x hx => (Below.cell hu (p := ⟨b, _, none⟩) hb).trans (h2 j x hx)⟩
end

theorem i64_of {a : Int} (h : (Lit.int .i64 a).wf = true) : -9223372036854775808 ≤ a ∧ a ≤ 9223372036854775807 := by
  simp only [Lit.wf, Bool.and_eq_true, decide_eq_true_eq] at h
  have h1 := h.1
  have h2 := h.2
  simp only [show IntKind.i64.max = 9223372036854775807 from rfl] at h2
  simp only [show IntKind.i64.min = -9223372036854775808 from rfl] at h1
  exact ⟨h1, h2⟩

end Go.Proofs.YtcoagmkncjonmaaGreatDoor.Args
