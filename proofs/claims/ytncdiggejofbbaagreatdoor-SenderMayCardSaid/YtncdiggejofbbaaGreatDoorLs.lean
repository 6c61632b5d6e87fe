/- Slices that read as lists of structs of whatever cells, whoever's they are. No function of the program is spoken of here. -/
import Derived.Test.YtncdiggejofbbaaGreatDoorRv
import Derived.Test.YtncdiggejofbbaaGreatDoorArgI
namespace Go.Proofs.YtncdiggejofbbaaGreatDoor.Ls
open Go.RowKit Go.Sort St
open Go.Proofs.YtncdiggejofbbaaGreatDoor.Rv
open Wh (Fr)
set_option linter.unusedVariables false

/-- v is a slice that reads as these elements -/
def Ls {α : Type} (k : Nat) (enc : α → List Value) (W : World) (v : Value) (L : List α) : Prop :=
  (L = [] ∧ ∃ a cap, v = .slice a 0 cap) ∨
  (L ≠ [] ∧ L.length ≤ maxLen ∧ ∃ b off cap, v = .slice (some ⟨b, off, none⟩) L.length cap ∧ b < W.heap.size ∧ ∀ i o, L[i]? = some o → ∀ j x, (enc o)[j]? = some x → W.cell? ⟨b, off + i * k + j, none⟩ = some x)
section
variable {α : Type} {k : Nat} {enc : α → List Value} {W W' : World} {v : Value} {L : List α}
theorem Ls.go (h : Ls k enc W v L) (kk : Kept W W') : Ls k enc W' v L := by
  rcases h with h | ⟨h1, h2, b, off, cap, e, hb, hc⟩
  · exact .inl h
  · exact .inr ⟨h1, h2, b, off, cap, e, Nat.lt_of_lt_of_le hb (Below.size kk), fun i o hi j x hj => (Below.cell kk (p := ⟨b, _, none⟩) hb).trans (hc i o hi j x hj)⟩
theorem Ls.most (h : Ls k enc W v L) : L.length ≤ maxLen := by
  rcases h with ⟨h, _⟩ | ⟨_, h, _⟩
  · rw [h]; exact Nat.zero_le _
  · exact h
theorem Ls.shape (h : Ls k enc W v L) : ∃ p cap, v = .slice p L.length cap := by
  rcases h with ⟨rfl, a, cap, e⟩ | ⟨_, _, b, off, cap, e, _⟩
  · exact ⟨a, cap, e⟩
  · exact ⟨_, cap, e⟩
theorem Ls.slice (h : Ls k enc W v L) : ∃ p N cap, v = .slice p N cap ∧ L.length = N ∧ N ≤ maxLen := by
  obtain ⟨p, cap, e⟩ := h.shape
  exact ⟨p, _, cap, e, rfl, h.most⟩
/-- one element: where it lies -/
theorem Ls.pick {p : Option Addr} {N cap : Nat} (h : Ls k enc W (.slice p N cap) L) {i : Nat} (hi : i < L.length) :
    ∃ o b off, L[i]? = some o ∧ p = some ⟨b, off, none⟩ ∧ b < W.heap.size ∧ ∀ j x, (enc o)[j]? = some x → W.cell? ⟨b, off + i * k + j, none⟩ = some x := by
  rcases h with ⟨rfl, _⟩ | ⟨_, _, b, off, cap', e, hb, hc⟩
  · simp at hi
  · injection e with e
    exact ⟨_, b, off, List.getElem?_eq_getElem hi, e, hb, hc i _ (List.getElem?_eq_getElem hi)⟩
theorem ls_nil (W : World) (a : Option Addr) (cap : Nat) : Ls k enc W (.slice a 0 cap) [] := .inl ⟨rfl, a, cap, rfl⟩
/-- a slice of a call's own -/
theorem ls_row {et : TypeId} (hk : ∀ a, (enc a).length = k) (h : RowV W v et k enc L) (hl : L.length ≤ 1000000) : Ls k enc W v L := by
  by_cases hn : L = []
  · subst hn
    obtain ⟨p, n, c, rfl⟩ := h.shape
    rcases h.2 with ⟨e, _⟩ | ⟨g, cap, cur, e, _⟩
    · exact .inl ⟨rfl, _, _, e⟩
    · exact .inl ⟨rfl, _, _, e⟩
  · obtain ⟨g, cap, cur, e, _⟩ := h.full hn
    refine .inr ⟨hn, by unfold maxLen; omega, g, 0, cap, e, h.lt (by rw [e]; rfl), fun i o hi j x hj => ?_⟩
    obtain ⟨g2, cap2, e2, _, _, hc⟩ := h.at hk hi
    rw [e] at e2
    cases e2
    have := hc j x hj
    rwa [Nat.zero_add]
/-- what an argument of such a type is -/
theorem ls_lies {ok : α → Prop} {n : Nat} {F : Nat → α} (h : Args.Lies W v k enc ok n F) : ∃ L : List α, Ls k enc W v L ∧ L.length = n ∧ ∀ o ∈ L, ok o := by
  refine ⟨(List.range n).map F, ?_, by simp, ?_⟩
  · rcases h with ⟨h0, a, cap, e⟩ | ⟨h0, h1, b, off, cap, e, hb, hc⟩
    · subst h0; exact .inl ⟨rfl, a, cap, e⟩
    · have hl : ((List.range n).map F).length = n := by simp
      refine .inr ⟨fun c => by rw [c] at hl; simp at hl; omega, by rw [hl]; exact h1, b, off, cap, by rw [hl]; exact e, hb, fun i o hi j x hj => ?_⟩
      have hin : i < n := by have := (List.getElem?_eq_some_iff.1 hi).1; rwa [hl] at this
      simp [hin] at hi
      subst hi
      exact (hc i hin).2 j x hj
  · intro o ho
    obtain ⟨i, hi, rfl⟩ := List.mem_map.1 ho
    have hin := List.mem_range.1 hi
    rcases h with ⟨h0, _⟩ | ⟨_, _, b, off, cap, e, hb, hc⟩
    · omega
    · exact (hc i hin).1
/-- its cells, one behind the other -/
theorem Ls.cells (hk : ∀ a, (enc a).length = k) (hp : 0 < k) {p : Option Addr} {N cap : Nat} (h : Ls k enc W (.slice p N cap) L) (hne : L ≠ []) :
    ∃ b off, p = some ⟨b, off, none⟩ ∧ ∀ j y, (fl enc L)[j]? = some y → W.cell? ((⟨b, off, none⟩ : Addr).add j) = some y := by
  rcases h with ⟨e, _⟩ | ⟨_, _, b, off, cap, e, hb, hc⟩
  · exact absurd e hne
  · injection e with e
    refine ⟨b, off, e, fun j y hj => ?_⟩
    rw [Rv.addr_add]
    have hlen : (fl enc L).length = L.length * k := Rv.fl_len hk L
    have hl : j < L.length * k := by have := (List.getElem?_eq_some_iff.1 hj).1; rwa [hlen] at this
    have hi : j / k < L.length := Nat.div_lt_of_lt_mul (by rwa [Nat.mul_comm])
    have e3 : j / k * k + j % k = j := by rw [Nat.mul_comm]; exact Nat.div_add_mod j k
    have h3 : j % k < k := Nat.mod_lt _ hp
    obtain ⟨o, ho⟩ : ∃ o, L[j / k]? = some o := ⟨_, List.getElem?_eq_getElem hi⟩
    obtain ⟨x, hx⟩ : ∃ x, (enc o)[j % k]? = some x := ⟨_, List.getElem?_eq_getElem (by rw [hk]; exact h3)⟩
    have h5 := Rv.fl_at hk ho hx
    rw [e3, hj] at h5
    cases h5
    have h6 := hc _ _ ho _ _ hx
    rw [Nat.add_assoc, e3] at h6
    exact h6
theorem Ls.src (hk : ∀ a, (enc a).length = k) (hp : 0 < k) (h : Ls k enc W v L) (hne : L ≠ []) : SrcV W v enc L := by
  obtain ⟨p, N, cap, rfl, hN, _⟩ := h.slice
  obtain ⟨b, off, rfl, hc⟩ := h.cells hk hp hne
  exact ⟨_, cap, by rw [hN], hc⟩
end

end Go.Proofs.YtncdiggejofbbaaGreatDoor.Ls
