/- What holds of the world while an owner's next step is told: the owner's block, two results' blocks, and what else stands by. -/
import Derived.Test.YtplkhinjlgmilaaOwA
import Derived.Test.YtplkhinjlgmilaaCdC
import Derived.Test.YtplkhinjlgmilaaPg3
namespace Go.Proofs.Ytplkhinjlgmilaa.Ow
open Go.RowKit Go.Sort Go.Shelf St Blk Eqs
open Go.Proofs.Ytplkhinjlgmilaa.Cl
open Go.Proofs.Ytplkhinjlgmilaa.Ls
open Go.Proofs.Ytplkhinjlgmilaa.Rv
open Go.Proofs.Ytplkhinjlgmilaa.Au (Stab)
set_option linter.unusedVariables false

structure Sp (t ta : TypeId) (w : World) (D : Array Value) (M : World → Prop) (u : World) : Prop where
  kept : Kept w u
  own : u.heap[w.heap.size]? = some (.cells D t (0, 0))
  res : ∃ xs, u.heap[w.heap.size + 1]? = some (.cells xs t (0, 0)) ∧ xs.size = 19
  act : ∃ xs, u.heap[w.heap.size + 2]? = some (.cells xs ta (0, 0)) ∧ xs.size = 3
  mem : M u
/-- it holds whatever is made later, and whatever the results' blocks hold -/
structure Fine (w : World) (M : World → Prop) : Prop where
  stab : Stab M
  rows : ∀ u g xs, g = w.heap.size + 1 ∨ g = w.heap.size + 2 → M u → M (u.setRow g xs)
section
variable {t ta : TypeId} {w u u' : World} {D : Array Value} {M : World → Prop}
theorem Sp.go (hM : Fine w M) (h : Sp t ta w D M u) (k : Kept u u') : Sp t ta w D M u' := by
  obtain ⟨xs, h1, h2⟩ := h.res
  obtain ⟨ys, h3, h4⟩ := h.act
  exact ⟨h.kept.trans k, kept_at k h.own, ⟨xs, kept_at k h1, h2⟩, ⟨ys, kept_at k h3, h4⟩, hM.stab u u' h.mem k⟩
theorem sp_stab (hM : Fine w M) : Stab (Sp t ta w D M) := fun u u' h k => h.go hM k
theorem Sp.row (hM : Fine w M) (h : Sp t ta w D M u) (xs : Array Value) (hx : xs.size = 19) : Sp t ta w D M (u.setRow (w.heap.size + 1) xs) := by
  obtain ⟨x1, h1, _⟩ := h.res
  obtain ⟨ys, h3, h4⟩ := h.act
  exact ⟨Ad.kept_row h.kept (by omega) xs, (setRow_other _ _ _ _ (by omega)).trans h.own, ⟨xs, setRow_heap _ _ x1 _ _ _ h1, hx⟩, ⟨ys, (setRow_other _ _ _ _ (by omega)).trans h3, h4⟩, hM.rows u _ xs (.inl rfl) h.mem⟩
theorem Sp.row2 (hM : Fine w M) (h : Sp t ta w D M u) (xs : Array Value) (hx : xs.size = 3) : Sp t ta w D M (u.setRow (w.heap.size + 2) xs) := by
  obtain ⟨x1, h1, h2⟩ := h.res
  obtain ⟨ys, h3, _⟩ := h.act
  exact ⟨Ad.kept_row h.kept (by omega) xs, (setRow_other _ _ _ _ (by omega)).trans h.own, ⟨x1, (setRow_other _ _ _ _ (by omega)).trans h1, h2⟩, ⟨xs, setRow_heap _ _ ys _ _ _ h3, hx⟩, hM.rows u _ xs (.inr rfl) h.mem⟩
/-- the result's block holds so much -/
def At1 (t : TypeId) (w : World) (D : Array Value) (u : World) : Prop := u.heap[w.heap.size + 1]? = some (.cells D t (0, 0))
def At2 (ta : TypeId) (w : World) (X : Array Value) (u : World) : Prop := u.heap[w.heap.size + 2]? = some (.cells X ta (0, 0))
theorem at1_stab : Stab (At1 t w D) := fun u u' h k => kept_at k h
theorem at2_stab : Stab (At2 ta w D) := fun u u' h k => kept_at k h
end
/-- what is done next of a step -/
def stepO (o : Ow) (K : List Cl) (L : List Pg.Op) : Ow × Array Value :=
  if o.pc < 0 ∨ (L.length : Int) ≤ o.pc then (o, actA 4 (sumL K 0) 0)
  else
    let x := L.getD o.pc.toNat ⟨0, 0, 0⟩
    if x.k = 1 then (workO o x.a, actA 0 0 0)
    else if x.k = 2 then (nextO o, actA 2 x.a x.b)
    else if x.k = 3 then joinO o K
    else if x.k = 4 then (nextO o, actA 3 0 0)
    else if x.k = 5 then (o, actA 4 (sumL K x.a) 0)
    else if x.k = 6 then (o, actA 5 (Cd.clean x.a) 0)
    else if x.k = 7 then (o, actA 6 (max (-1) x.a) 0)
    else (o, actA 5 13 0)
section
variable {o : Ow} {K : List Cl} {L : List Pg.Op}
theorem step_out (h : o.pc < 0 ∨ (L.length : Int) ≤ o.pc) : stepO o K L = (o, actA 4 (sumL K 0) 0) := by unfold stepO; rw [if_pos h]
theorem step_at {i : Nat} {x : Pg.Op} (h : o.pc = (i : Int)) (hx : L[i]? = some x) : stepO o K L =
    if x.k = 1 then (workO o x.a, actA 0 0 0)
    else if x.k = 2 then (nextO o, actA 2 x.a x.b)
    else if x.k = 3 then joinO o K
    else if x.k = 4 then (nextO o, actA 3 0 0)
    else if x.k = 5 then (o, actA 4 (sumL K x.a) 0)
    else if x.k = 6 then (o, actA 5 (Cd.clean x.a) 0)
    else if x.k = 7 then (o, actA 6 (max (-1) x.a) 0)
    else (o, actA 5 13 0) := by
  have hi : i < L.length := (List.getElem?_eq_some_iff.1 hx).1
  unfold stepO
  rw [if_neg (by omega), h]
  simp only [Int.toNat_natCast]
  rw [show L.getD i ⟨0, 0, 0⟩ = x by rw [List.getD_eq_getElem?_getD, hx]; rfl]
end

end Go.Proofs.Ytplkhinjlgmilaa.Ow
