/- Slices of a call's own whose elements are one cell each, of whatever kind: what they hold; appends to them; one element laid. No function of the program is spoken of here. -/
import Derived.Test.YtcoagmkncjonmaaGreatDoorRv
namespace Go.Proofs.YtcoagmkncjonmaaGreatDoor.Sv
open Go.RowKit Go.Sort
open St (Kept blk_cell blk_lt blk_new)
open Wh (Fr)
set_option linter.unusedVariables false

/-- a slice's type, its elements', which take one cell, and bs bytes -/
structure EncV (st et : TypeId) (bs : Nat) (z : Value) : Prop where
  us : Tryz.prog.underlying st = some (.slice et)
  info : (Tryz.prog.info? et).map (fun i => (i.zero, i.size, i.bytes)) = some (some z, 1, bs)
  small : bs ≤ 1000
  zc : z.cells.size = 1
/-- v is a slice of a call's own, whose block is none of those below base, that holds these values -/
def Sv (et : TypeId) (w : World) (base : Nat) (v : Value) (L : List Value) : Prop := w.ownsRow base et 1 v L.length L
section
variable {st et : TypeId} {bs : Nat} {z : Value} {w w' : World} {base : Nat} {v : Value} {L : List Value}
theorem sv_nil (et : TypeId) (w : World) (base : Nat) : Sv et w base (.slice none 0 0) [] := World.ownsRow_nil w base _ 1
theorem Sv.lt (h : Sv et w base v L) {g : Nat} (hg : v.ownBlock = some g) : base ≤ g ∧ g < w.heap.size := World.ownsRow.lt h g hg
theorem Sv.kept (h : Sv et w base v L) (hb : ∀ g, v.ownBlock = some g → w'.heap[g]? = w.heap[g]?) : Sv et w' base v L := by
  refine ⟨h.1, ?_⟩
  rcases h.2 with hn | ⟨g, cap, cur, rfl, hbb, hgg, r⟩
  · exact .inl hn
  · exact .inr ⟨g, cap, cur, rfl, hbb, (hb g rfl).trans hgg, r⟩
theorem Sv.keep (h : Sv et w base v L) (k : Kept w w') : Sv et w' base v L := h.kept fun g e => k.block g (h.lt e).2
theorem Sv.fr {S : Nat → Prop} (h : Sv et w base v L) (f : Fr S w w') (hs : ∀ g, v.ownBlock = some g → ¬ S g) : Sv et w' base v L := h.kept fun g e => f.block g (h.lt e).2 (hs g e)
theorem Sv.shape (h : Sv et w base v L) : ∃ p cap, v = .slice p L.length cap := by
  rcases h.2 with ⟨e, hn⟩ | ⟨g, cap, cur, e, _⟩
  · exact ⟨_, _, by rw [hn]; exact e⟩
  · exact ⟨_, _, e⟩
theorem Sv.full (h : Sv et w base v L) (hne : L ≠ []) : ∃ g cap cur, v = .slice (some ⟨g, 0, none⟩) L.length cap ∧ L.length ≤ cap ∧ base ≤ g ∧ w.heap[g]? = some (.cells cur et (0, 0)) ∧ L.length ≤ cur.size ∧ ∀ (j : Nat) (x : Value), L[j]? = some x → cur[j]? = some x := by
  rcases h.2 with ⟨_, hn⟩ | ⟨g, cap, cur, rfl, hb, hgg, h1, h2, h3, h4⟩
  · exact absurd (List.length_eq_zero_iff.mp hn) hne
  · refine ⟨g, cap, cur, rfl, h1, hb, hgg, by omega, fun j x hx => ?_⟩
    have hj : j < L.length := (List.getElem?_eq_some_iff.1 hx).1
    rw [← h4, List.getElem?_take, if_pos (by omega)] at hx
    rw [← Array.getElem?_toList]
    exact hx
theorem Sv.at (h : Sv et w base v L) {j : Nat} {x : Value} (hx : L[j]? = some x) : ∃ g cap, v = .slice (some ⟨g, 0, none⟩) L.length cap ∧ base ≤ g ∧ g < w.heap.size ∧ w.cell? ⟨g, j, none⟩ = some x := by
  obtain ⟨g, cap, cur, e, _, hb, hg, _, hc⟩ := Sv.full h (fun c => by rw [c] at hx; simp at hx)
  exact ⟨g, cap, e, hb, blk_lt hg, by rw [blk_cell hg]; exact hc j x hx⟩
theorem sv_base (h : Sv et w base v L) : Sv et w 0 v L := by
  refine ⟨h.1, ?_⟩
  rcases h.2 with hn | ⟨g, cap, cur, e, hbb, hgg, r⟩
  · exact .inl hn
  · exact .inr ⟨g, cap, cur, e, Nat.zero_le _, hgg, r⟩
/-- 'append(v, u...)', where u reads as K -/
theorem wpList_append_vals (R : EncV st et bs z) (w : World) {ops : Array Oper} {rest : List Oper} {o : Oper} {a : Act} {Q : Exit → Act → World → Prop} (hgd : o.guard = none) (s x : Operand)
    (ho : o.op = .call { callee := .builtin .append, args := #[s, x], argTypes := #[st, st] }) (v : Value) {base : Nat} (H K : List Value) (ad : Addr) (m c : Nat) (hs : a.eval s = v) (hx : a.eval x = .slice (some ad) m c) (hv : Sv et w base v H) (hm : K.length = m)
    (hK : ∀ j y, K[j]? = some y → w.cell? (ad.add j) = some y) (h1 : ∀ y ∈ K, y.oneCell' = true) (hn : H.length + K.length ≤ 1000000) (hb : base ≤ w.heap.size)
    (h : ∀ v2 w2, Sv et w2 base v2 (H ++ K) → w.grownBy w2 v.ownBlock → (v2.ownBlock = v.ownBlock ∨ v2.ownBlock = some w.heap.size) → wpList Tryz.prog ops Q rest (a.put o.dst v2) w2) : wpList Tryz.prog ops Q (o :: rest) a w := by
  obtain ⟨i0, hi, hz0, hz1, hz2⟩ := info_parts R.info
  have hle := R.small
  subst hm
  refine wpList_append_own_at w hgd s x st ho base et i0 z 1 bs R.us hi hz0 hz1 hz2 R.zc (by decide) v H.length H hs hv ad K.length c K hx (by simp) hK h1 ?_ ?_ hb ?_
  · unfold maxLen; omega
  · have h1 : (H.length + K.length) * bs ≤ 1000000 * bs := Nat.mul_le_mul_right _ hn
    have h2 : 1000000 * bs ≤ 1000000 * 1000 := Nat.mul_le_mul_left _ hle
    omega
  · intro v' w' r1 r2 _ r4
    refine h v' w' ?_ r2 r4
    unfold Sv
    rw [List.length_append]
    exact r1
/-- 'append(v, x)' -/
theorem wpList_append_one (R : EncV st et bs z) (w : World) {ops : Array Oper} {rest : List Oper} {o : Oper} {a : Act} {Q : Exit → Act → World → Prop} (hgd : o.guard = none) (s y : Operand)
    (ho : o.op = .call { callee := .builtin .append, args := #[s, y], argTypes := #[st, st] }) (v : Value) {base : Nat} (H : List Value) (x : Value) (hs : a.eval s = v) (hy : a.eval y = .slice (some ⟨w.heap.size, 0, none⟩) 1 1) (hv : Sv et w base v H) (h1 : x.oneCell' = true) (hn : H.length ≤ 900000) (hb : base ≤ w.heap.size)
    (h : ∀ v2 w2, Sv et w2 base v2 (H ++ [x]) → (w.alloc (.cells #[x] et)).grownBy w2 v.ownBlock → (v2.ownBlock = v.ownBlock ∨ v2.ownBlock = some (w.heap.size + 1)) → wpList Tryz.prog ops Q rest (a.put o.dst v2) w2) :
    wpList Tryz.prog ops Q (o :: rest) a (w.alloc (.cells #[x] et)) := by
  refine wpList_append_vals R _ hgd s y ho v H [x] ⟨w.heap.size, 0, none⟩ 1 1 hs hy (hv.keep (Kept.one _ _)) rfl (fun j u hj => ?_) (fun u hu => by rw [List.mem_singleton] at hu; rw [hu]; exact h1) (by simp; omega) (by simp; omega) (fun v2 w2 r1 r2 r3 => h v2 w2 r1 r2 (r3.imp id (fun c => by rw [c]; simp)))
  rw [Rv.addr_add, blk_cell (blk_new w _), Nat.zero_add, ← Array.getElem?_toList]; exact hj
/-- an element is laid: 'v[i] = x' -/
theorem sv_set {g cap : Nat} (h : Sv et w base (.slice (some ⟨g, 0, none⟩) L.length cap) L) {i : Nat} (hi : i < L.length) (x : Value) : Sv et (w.setCell ⟨g, i, none⟩ x) base (.slice (some ⟨g, 0, none⟩) L.length cap) (L.set i x) := by
  rcases h.2 with ⟨e, hn⟩ | ⟨g', cap', cur, e, hb, hgg, h1, h2, h3, h4⟩
  · cases e
  · cases e
    refine ⟨by simp, .inr ⟨g, cap, cur.setIfInBounds i x, by rw [List.length_set], hb, St.blk_set hgg i x, by rw [List.length_set]; exact h1, h2, by simpa using h3, ?_⟩⟩
    rw [List.length_set, Array.toList_setIfInBounds, List.take_set, h4]
end

end Go.Proofs.YtcoagmkncjonmaaGreatDoor.Sv
