/- How arguments of the given functions lie in memory: a slice of integers. No function of the program is spoken of here. -/
import Derived.Test.YtckjdncacinnkaaDoorSt
import Derived.ChangeSlices
import Derived.ChangeArms
import Derived.WideShapes
import Derived.Carry
namespace Go.Proofs.YtckjdncacinnkaaDoor.Args
open Go.RowKit Go.Deep Go.ChangeShapes Go.WideShapes
set_option linter.unusedVariables false

theorem cell_in {w : World} {b o : Nat} {v : Value} (h : w.cell? ⟨b, o, none⟩ = some v) : b < w.heap.size := by
  rcases Nat.lt_or_ge b w.heap.size with h' | h'
  · exact h'
  · simp [World.cell?, Array.getElem?_eq_none h'] at h

/-- a slice of so many integers -/
def Ints (W : World) (v : Value) (len : Nat) (F : Nat → Int) : Prop :=
  (len = 0 ∧ ∃ a cap, v = .slice a 0 cap) ∨
  (0 < len ∧ len ≤ maxLen ∧ ∃ b off cap, v = .slice (some ⟨b, off, none⟩) len cap ∧ b < W.heap.size ∧
    ∀ i, i < len → W.cell? ⟨b, off + i, none⟩ = some (.int .i64 (F i)) ∧ (Lit.int .i64 (F i)).wf = true)

theorem open_intl {H : Type} {enc : TypeId × Value → H} {P : Program} {W : World} {T E : TypeId} (ht : P.underlying T = some (.slice E)) (he : P.underlying E = some (.int .i64)) (ce : P.cellsOf E = 1)
    {r : Reach} {b0 : Nat} {v : Value} {d : DataW H} {p : List MemPlace} (hv : Value.okWide P W r b0 T v) (h : DataW.Trod enc P W 0 (fun _ => true) true T v d p) : ∃ len F, Ints W v len F := by
  obtain ⟨a0, len0, cap0, rfl⟩ := okWide_slice ht hv
  obtain ⟨fuel, hf⟩ := h
  rcases open_ints ht he ce hf with ⟨hcs, hx⟩ | ⟨a, len, cap, zs, hcs, _, hl, hm, hmm, hx, hcell, hwf⟩
  · simp [Value.cells] at hcs
    obtain ⟨rfl, rfl, rfl⟩ := hcs
    exact ⟨0, fun _ => 0, .inl ⟨rfl, _, _, rfl⟩⟩
  · simp [Value.cells] at hcs
    obtain ⟨rfl, rfl, rfl⟩ := hcs
    simp only [if_true] at hmm
    by_cases h0 : len0 = 0
    · subst h0; exact ⟨0, fun _ => 0, .inl ⟨rfl, _, _, rfl⟩⟩
    · obtain ⟨b, off, spot⟩ := a
      have hspot : spot = none := by simpa [Addr.add] using World.cell?_spot (hcell 0 (by omega))
      subst hspot
      refine ⟨len0, fun i => zs.getD i 0, .inr ⟨by omega, by omega, b, off, cap0, rfl, ?_, fun i hi => ⟨?_, ?_⟩⟩⟩
      · have h1 := hcell 0 (by omega)
        rw [add_plain] at h1
        exact cell_in h1
      · have h1 := hcell i (by omega)
        rw [add_plain] at h1
        exact h1
      · refine hwf _ ?_
        show zs.getD i 0 ∈ zs
        rw [List.getD_eq_getElem?_getD, List.getElem?_eq_getElem (by omega)]
        exact List.getElem_mem ..

end Go.Proofs.YtckjdncacinnkaaDoor.Args
