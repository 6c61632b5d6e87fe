/- Slices of steps, and of programs, cloned; package setup: a configuration with another setting. -/
import Derived.Test.YtcoagmkncjonmaaDoorSu1
import Derived.Test.YtcoagmkncjonmaaDoorPgB
import Derived.WalkSpells
import Derived.Test.YtcoagmkncjonmaaDoorPgS
import Derived.Test.YtcoagmkncjonmaaDoorSv
namespace Go.Proofs.YtcoagmkncjonmaaDoor.Su
open Go.RowKit Go.Sort St Blk
open Ad (Cf info_cf load_l load_w)
open Pg (Ops Progs enc_op)
open Rv
open Wh (Fr)
set_option linter.unusedVariables false
set_option linter.unusedSimpArgs false


theorem enc_pv : Sv.EncV 22 37 24 (.slice none 0 0) := ⟨Tryd.underlying22, by kernel_rfl, by decide, rfl⟩
/-- the slices of which a slice of programs is made -/
theorem progs_vals {W : World} {p : Option Addr} {N cap : Nat} {M : List (List Pg.Op)} (h : Progs W (.slice p N cap) M) : ∃ xs : List Value, xs.length = M.length ∧ (∀ x ∈ xs, x.oneCell' = true) ∧ (∀ (i : Nat) (x : Value), xs[i]? = some x → ∃ b off, p = some ⟨b, off, none⟩ ∧ W.cell? ⟨b, off + i, none⟩ = some x) ∧ ∀ (i : Nat) (x : Value) (L : List Pg.Op), xs[i]? = some x → M[i]? = some L → Ops W x L := by
  have hp : ∀ i, i < M.length → ∃ x : Value, ∃ L b off, M[i]? = some L ∧ p = some ⟨b, off, none⟩ ∧ W.cell? ⟨b, off + i, none⟩ = some x ∧ Ops W x L := fun i hi => by
    obtain ⟨L, b, off, x, h1, h2, h3, h4⟩ := h.pick hi
    exact ⟨x, L, b, off, h1, h2, h3, h4⟩
  obtain ⟨F, hF⟩ := Deep.choose_lt hp
  have hin : ∀ (i : Nat) (x : Value), ((List.range M.length).map F)[i]? = some x → i < M.length ∧ x = F i := fun i x hx => by
    have h1 := (List.getElem?_eq_some_iff.1 hx).1
    simp at h1
    simp [h1] at hx
    exact ⟨h1, hx.symm⟩
  refine ⟨(List.range M.length).map F, by simp, fun x hx => ?_, fun i x hx => ?_, fun i x L hx hL => ?_⟩
  · obtain ⟨i, hi, rfl⟩ := List.mem_map.1 hx
    obtain ⟨L, b, off, h1, h2, h3, h4⟩ := hF i (List.mem_range.1 hi)
    obtain ⟨q, n, c, e, _⟩ := h4.slice
    rw [e]; rfl
  · obtain ⟨h1, rfl⟩ := hin i x hx
    obtain ⟨L, b, off, h1, h2, h3, h4⟩ := hF i h1
    exact ⟨b, off, h2, h3⟩
  · obtain ⟨h1, rfl⟩ := hin i x hx
    obtain ⟨L', b, off, h1, h2, h3, h4⟩ := hF i h1
    rw [h1] at hL
    cases hL
    exact h4


theorem sv_cell {et : TypeId} {w : World} {base g N c i : Nat} {ys : List Value} (h : Sv.Sv et w base (.slice (some ⟨g, 0, none⟩) N c) ys) (hl : ys.length = N) (hi : i < N) : (∃ u, w.cell? ⟨g, i, none⟩ = some u) ∧ w.frozen? ⟨g, i, none⟩ = false := by
  obtain ⟨g2, cap2, cur, e, _, _, hg, hcs, _⟩ := Sv.Sv.full h (fun c => by rw [c] at hl; simp at hl; omega)
  cases e
  exact ⟨⟨cur[i]'(by omega), by rw [blk_cell hg, Array.getElem?_eq_getElem (by omega)]⟩, blk_free hg i⟩
/-- rows of a call's own that hold the first i of the programs -/
def Rows (w : World) (base g : Nat) (M : List (List Pg.Op)) (i : Nat) (ys : List Value) : Prop :=
  ∀ (j : Nat) (y : Value) (L : List Pg.Op), j < i → ys[j]? = some y → M[j]? = some L → RowV w y 71 3 Pg.Op.row L ∧ y.ownBlock ≠ some g ∧ ∀ b, y.ownBlock = some b → base ≤ b
theorem progs_of {w : World} {base : Nat} {v : Value} {ys : List Value} {M : List (List Pg.Op)} (h : Sv.Sv 37 w base v ys) (hl : ys.length = M.length) (hm : M.length ≤ 1000) (hr : ∀ (j : Nat) (y : Value) (L : List Pg.Op), ys[j]? = some y → M[j]? = some L → Ops w y L) : Progs w v M := by
  by_cases hM : M = []
  · subst hM
    obtain ⟨p, cap, e⟩ := h.shape
    rw [hl] at e
    exact .inl ⟨rfl, _, _, e⟩
  · obtain ⟨g, cap, cur, e, _, hb, hg, _, hc⟩ := Sv.Sv.full h (fun c => by rw [c] at hl; exact hM (List.length_eq_zero_iff.1 hl.symm))
    refine .inr ⟨hM, by unfold maxLen; omega, g, 0, cap, by rw [← hl]; exact e, blk_lt hg, fun i L hi => ?_⟩
    have hlt : i < ys.length := by rw [hl]; exact (List.getElem?_eq_some_iff.1 hi).1
    obtain ⟨y, hy⟩ : ∃ y, ys[i]? = some y := ⟨_, List.getElem?_eq_getElem hlt⟩
    refine ⟨y, ?_, hr i y L hy hi⟩
    rw [Nat.zero_add, blk_cell hg]; exact hc i y hy


def zeroA : Array Value := (mk [] none 0 0).arr
theorem load_cf {W : World} {b : Nat} {A : Array Value} (hb : W.heap[b]? = some (.cells A 24 (0, 0))) (hs : A.size = 14) : (loadVar 24 ⟨b, 0, none⟩).run Tryd.prog W = .ok (.agg A) W :=
  run_loadVar_row _ b _ _ A (0, 0) _ hb Tryd.underlying24 rfl (by rw [hs]; exact info_cf)




end Go.Proofs.YtcoagmkncjonmaaDoor.Su
