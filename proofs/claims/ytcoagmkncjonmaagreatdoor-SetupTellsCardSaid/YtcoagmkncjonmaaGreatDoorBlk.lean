/- Blocks of a call's own, one behind the other: what each holds; what stores, and calls that keep what was there, make of them. No function of the program is spoken of here. What a call hands back whose results lie in memory. -/
import Derived.Test.YtcoagmkncjonmaaGreatDoorSt
import Derived.Laws.Tables
import Derived.Laws.Rows
namespace Go.Proofs.YtcoagmkncjonmaaGreatDoor.Blk
open Go.RowKit Go.Sort St
set_option linter.unusedVariables false

/-- what the blocks from the first new one on hold -/
structure Bl (w W : World) (L : List (Array Value × TypeId)) : Prop where
  kept : Kept w W
  at' : ∀ i x, L[i]? = some x → W.heap[w.heap.size + i]? = some (.cells x.1 x.2 (0, 0))

/-- so many blocks are made -/
def allocs : World → List (Array Value × TypeId) → World
  | w, [] => w
  | w, x :: L => allocs (w.alloc (.cells x.1 x.2)) L

theorem Bl.start : ∀ (L : List (Array Value × TypeId)) (w : World), Bl w (allocs w L) L
  | [], w => ⟨Kept.refl w, fun i x h => by simp at h⟩
  | x :: L, w => by
    obtain ⟨k, h⟩ := Bl.start L (w.alloc (.cells x.1 x.2))
    refine ⟨(Kept.one w _).trans k, fun i y hy => ?_⟩
    have hs : (w.alloc (.cells x.1 x.2)).heap.size = w.heap.size + 1 := by simp
    match i, hy with
    | 0, hy =>
      simp only [List.getElem?_cons_zero, Option.some.injEq] at hy
      subst hy
      have := blk_new w (.cells x.1 x.2)
      rw [show w.heap.size + 0 = w.heap.size from rfl, ← this]
      exact Below.block k w.heap.size (by omega)
    | i + 1, hy =>
      have := h i y (by simpa using hy)
      rw [hs] at this
      rwa [show w.heap.size + (i + 1) = w.heap.size + 1 + i by omega]

theorem Bl.one (w : World) (xs : Array Value) (t : TypeId) : Bl w (w.alloc (.cells xs t)) [(xs, t)] := Bl.start [(xs, t)] w
theorem Bl.two (w : World) (xs ys : Array Value) (t u : TypeId) : Bl w ((w.alloc (.cells xs t)).alloc (.cells ys u)) [(xs, t), (ys, u)] := Bl.start [(xs, t), (ys, u)] w
theorem Bl.three (w : World) (xs ys zs : Array Value) (t u v : TypeId) : Bl w (((w.alloc (.cells xs t)).alloc (.cells ys u)).alloc (.cells zs v)) [(xs, t), (ys, u), (zs, v)] := Bl.start [(xs, t), (ys, u), (zs, v)] w
theorem kept_at {c : Nat} {x y : World} {o : Obj} (h : Kept x y) (hc : x.heap[c]? = some o) : y.heap[c]? = some o := by rw [Below.block h c (blk_lt hc)]; exact hc

section
variable {w W W' : World} {L : List (Array Value × TypeId)} {i : Nat} {xs : Array Value} {t : TypeId}
theorem Bl.go (h : Bl w W L) (k : Kept W W') : Bl w W' L := ⟨h.kept.trans k, fun i x hx => kept_at k (h.at' i x hx)⟩
theorem Bl.blk (h : Bl w W L) (i : Nat) {xs : Array Value} {t : TypeId} (e : L[i]? = some (xs, t)) : W.heap[w.heap.size + i]? = some (.cells xs t (0, 0)) := h.at' i _ e
theorem Bl.cell (h : Bl w W L) (i k : Nat) {xs : Array Value} {t : TypeId} (e : L[i]? = some (xs, t)) : W.cell? ⟨w.heap.size + i, k, none⟩ = xs[k]? := blk_cell (h.at' i _ e) k
theorem Bl.free (h : Bl w W L) (i k : Nat) {xs : Array Value} {t : TypeId} (e : L[i]? = some (xs, t)) : W.frozen? ⟨w.heap.size + i, k, none⟩ = false := blk_free (h.at' i _ e) k
/-- a block's row is stored anew -/
theorem Bl.row (h : Bl w W L) (i : Nat) {xs : Array Value} {t : TypeId} (e : L[i]? = some (xs, t)) (ys : Array Value) : Bl w (W.setRow (w.heap.size + i) ys) (L.set i (ys, t)) := by
  refine ⟨⟨by rw [setRow_os]; exact h.kept.os, by rw [setRow_tape]; exact h.kept.tape, by rw [setRow_output]; exact h.kept.output, by rw [setRow_size]; exact Below.size h.kept, fun k hk => by rw [setRow_other _ _ _ _ (by omega)]; exact h.kept.block k hk⟩, fun j x hx => ?_⟩
  have hi : i < L.length := (List.getElem?_eq_some_iff.1 e).1
  by_cases hj : i = j
  · subst hj
    rw [List.getElem?_set_self hi, Option.some.injEq] at hx
    subst hx
    exact setRow_heap _ _ xs _ _ _ (h.blk i e)
  · rw [List.getElem?_set_ne hj] at hx
    rw [setRow_other _ _ _ _ (by omega)]
    exact h.at' j x hx
/-- a cell of a block is stored -/
theorem Bl.put (h : Bl w W L) (i k : Nat) {xs : Array Value} {t : TypeId} (e : L[i]? = some (xs, t)) (u : Value) : Bl w (W.setCell ⟨w.heap.size + i, k, none⟩ u) (L.set i (xs.setIfInBounds k u, t)) := by
  refine ⟨Below.setCell h.kept (by show w.heap.size ≤ w.heap.size + i; omega) _, fun j x hx => ?_⟩
  have hi : i < L.length := (List.getElem?_eq_some_iff.1 e).1
  by_cases hj : i = j
  · subst hj
    rw [List.getElem?_set_self hi, Option.some.injEq] at hx
    subst hx
    exact blk_set (h.blk i e) k u
  · rw [List.getElem?_set_ne hj] at hx
    rw [Below.heap_setCell _ _ _ _ (by show w.heap.size + j ≠ w.heap.size + i; omega)]
    exact h.at' j x hx
/-- a row behind all of them is stored -/
theorem Bl.far (h : Bl w W L) {X : Nat} (hX : w.heap.size + L.length ≤ X) (ys : Array Value) : Bl w (W.setRow X ys) L := by
  refine ⟨⟨by rw [setRow_os]; exact h.kept.os, by rw [setRow_tape]; exact h.kept.tape, by rw [setRow_output]; exact h.kept.output, by rw [setRow_size]; exact Below.size h.kept, fun k hk => by rw [setRow_other _ _ _ _ (by omega)]; exact h.kept.block k hk⟩, fun j x hx => ?_⟩
  have hj : j < L.length := (List.getElem?_eq_some_iff.1 hx).1
  rw [setRow_other _ _ _ _ (by omega)]
  exact h.at' j x hx
/-- a new block stands behind all of them -/
theorem Bl.size (h : Bl w W L) : w.heap.size + L.length ≤ W.heap.size := by
  cases hl : L.length with
  | zero => exact Below.size h.kept
  | succ n =>
    obtain ⟨x, hx⟩ : ∃ x, L[n]? = some x := ⟨_, List.getElem?_eq_getElem (by omega)⟩
    have := blk_lt (h.at' n x hx)
    omega
theorem Bl.as {L' : List (Array Value × TypeId)} (h : Bl w W L) (e : L = L') : Bl w W L' := e ▸ h
end

end Go.Proofs.YtcoagmkncjonmaaGreatDoor.Blk

namespace Go.Proofs.YtcoagmkncjonmaaGreatDoor.Rw
open Go Go.RowKit

theorem results_row_tmp {P : Program} {fn : Func} {p q : Tmp} {ty : TypeId} (h : fn.results = #[.cell p ty, .tmp q]) (tmps : Array Value) (w : World) (g : Nat) (t : TypeId) (cs : Array Value) (fr : Nat × Nat) (d : TypeDesc)
    (hp : tmps.getD p undef = .pointer (some ⟨g, 0, none⟩)) (hg : w.heap[g]? = some (.cells cs t fr))
    (hu : P.underlying ty = some d) (hd : (match d with | .struct _ | .array _ _ => true | _ => false) = true) (hi : (P.info? ty).map (·.size) = some cs.size) :
    (results fn tmps).run P w = .ok (.tuple #[.agg cs, tmps.getD q undef]) w := by
  have hp' : tmps[p]?.getD undef = .pointer (some ⟨g, 0, none⟩) := by simpa using hp
  simp [results, h, hp', asAddr, run_loadVar_row w g t ty cs fr d hg hu hd hi]

end Go.Proofs.YtcoagmkncjonmaaGreatDoor.Rw
