/- Slices of texts of a call's own: what they hold; appends to them. No function of the program is spoken of here. -/
import Derived.Test.YtcoagmkncjonmaaGreatDoorSt
import Derived.Maps.AppendAt
import Derived.Laws.AppendOwnNone
namespace Go.Proofs.YtcoagmkncjonmaaGreatDoor.Ss
open Go.RowKit Go.Sort
open St (Kept blk_cell blk_lt blk_new)
set_option linter.unusedVariables false

theorem info_str : (Tryz.prog.info? 9).map (fun i => (i.zero, i.size, i.bytes)) = some (some (.string ⟨#[]⟩), 1, 16) := by kernel_rfl
/-- v is a slice of a call's own, whose block is none of those below base, that holds these texts -/
def Ss (w : World) (base : Nat) (v : Value) (L : List ByteArray) : Prop := w.ownsRow base 9 1 v L.length (L.map Value.string)
section
variable {w w' : World} {base : Nat} {v : Value} {L : List ByteArray}
theorem ss_nil (w : World) (base : Nat) : Ss w base (.slice none 0 0) [] := World.ownsRow_nil w base _ 1
theorem Ss.lt (h : Ss w base v L) {g : Nat} (hg : v.ownBlock = some g) : base ≤ g ∧ g < w.heap.size := World.ownsRow.lt h g hg
theorem Ss.kept (h : Ss w base v L) (hb : ∀ g, v.ownBlock = some g → w'.heap[g]? = w.heap[g]?) : Ss w' base v L := by
  refine ⟨h.1, ?_⟩
  rcases h.2 with hn | ⟨g, cap, cur, rfl, hbb, hgg, r⟩
  · exact .inl hn
  · exact .inr ⟨g, cap, cur, rfl, hbb, (hb g rfl).trans hgg, r⟩
theorem Ss.keep (h : Ss w base v L) (k : Kept w w') : Ss w' base v L := h.kept fun g e => k.block g (h.lt e).2
theorem Ss.full (h : Ss w base v L) (hne : L ≠ []) : ∃ g cap, v = .slice (some ⟨g, 0, none⟩) L.length cap ∧ L.length ≤ cap ∧ base ≤ g ∧ g < w.heap.size ∧ ∀ j x, L[j]? = some x → w.cell? ⟨g, 0 + j, none⟩ = some (.string x) := by
  rcases h.2 with ⟨_, hn⟩ | ⟨g, cap, cur, rfl, hb, hgg, h1, h2, h3, h4⟩
  · exact absurd (List.length_eq_zero_iff.mp hn) hne
  · refine ⟨g, cap, rfl, h1, hb, blk_lt hgg, fun j x hx => ?_⟩
    have hj : j < L.length := (List.getElem?_eq_some_iff.1 hx).1
    have h5 : (L.map Value.string)[j]? = some (.string x) := by simp [hx]
    rw [← h4, List.getElem?_take, if_pos (by omega)] at h5
    rw [blk_cell hgg, ← Array.getElem?_toList, Nat.zero_add]
    exact h5
/-- a new block of texts -/
theorem ss_new (w : World) (base : Nat) (hb : base ≤ w.heap.size) (L : List ByteArray) (cs : Array Value) (hcs : (L.map Value.string).toArray = cs) (hl : L.length ≤ 1000) (n : Nat) (hn : L.length = n) :
    Ss (w.alloc (.cells cs 9)) base (.slice (some ⟨w.heap.size, 0, none⟩) n n) L := by
  subst hcs
  subst hn
  refine ⟨by simp, .inr ⟨w.heap.size, L.length, _, rfl, hb, blk_new _ _, Nat.le_refl _, by unfold maxLen; omega, by simp, ?_⟩⟩
  rw [Nat.mul_one, List.take_of_length_le (by simp)]
theorem ss_blk {g n : Nat} {cs : Array Value} (hg : w.heap[g]? = some (.cells cs 9 (0, 0))) (hb : base ≤ g) (hcs : (L.map Value.string).toArray = cs) (hl : L.length ≤ 1000) (hn : L.length = n) : Ss w base (.slice (some ⟨g, 0, none⟩) n n) L := by
  subst hcs
  subst hn
  refine ⟨by simp, .inr ⟨g, L.length, _, rfl, hb, hg, Nat.le_refl _, by unfold maxLen; omega, by simp, ?_⟩⟩
  rw [Nat.mul_one, List.take_of_length_le (by simp)]
/-- 'append(v, u...)' -/
theorem wpList_append_strs (w : World) {ops : Array Oper} {rest : List Oper} {o : Oper} {a : Act} {Q : Exit → Act → World → Prop} (hgd : o.guard = none) (s x : Operand)
    (ho : o.op = .call { callee := .builtin .append, args := #[s, x], argTypes := #[27, 27] }) (v u : Value) {base base2 : Nat} (H K : List ByteArray) (hs : a.eval s = v) (hx : a.eval x = u) (hv : Ss w base v H) (hu : Ss w base2 u K) (hn : H.length + K.length ≤ 1000) (hb : base ≤ w.heap.size)
    (h : ∀ v2 w2, Ss w2 base v2 (H ++ K) → w.grownBy w2 v.ownBlock → wpList Tryz.prog ops Q rest (a.put o.dst v2) w2) : wpList Tryz.prog ops Q (o :: rest) a w := by
  obtain ⟨i0, hi, hz0, hz1, hz2⟩ := info_parts info_str
  rcases hu.2 with ⟨hu1, hu2⟩ | ⟨g, cap, cur, hu1, _, hgg, h1, h2, h3, h4⟩
  · have hK : K = [] := List.length_eq_zero_iff.mp hu2
    subst hK
    rw [List.append_nil] at h
    exact wpList_append_own_none hgd s x 27 ho base 9 i0 1 Tryz.underlying27 hi v H.length (H.map Value.string) hs hv (hx.trans hu1) (h v w hv ⟨rfl, rfl, rfl, Nat.le_refl _, fun _ _ _ => rfl⟩)
  · refine wpList_append_own w hgd s x 27 ho base 9 i0 (.string ⟨#[]⟩) 1 16 Tryz.underlying27 hi hz0 hz1 hz2 rfl (by decide) v H.length (H.map Value.string) hs hv ⟨g, 0, none⟩ K.length cap (K.map Value.string) (hx.trans hu1) (by simp) (fun j y hy => ?_) (fun y hy => ?_) ?_ ?_ hb ?_
    · have e : (⟨g, 0, none⟩ : Addr).add j = ⟨g, j, none⟩ := by unfold Addr.add; split <;> simp_all
      rw [e, blk_cell hgg, ← Array.getElem?_toList]
      rw [← h4, List.getElem?_take] at hy
      split at hy
      · exact hy
      · cases hy
    · obtain ⟨z, _, rfl⟩ := List.mem_map.1 hy; rfl
    · unfold maxLen; omega
    · omega
    · intro v' w' h5 h6 _
      refine h v' w' ?_ h6
      unfold Ss
      rw [List.length_append, List.map_append]
      exact h5
end

end Go.Proofs.YtcoagmkncjonmaaGreatDoor.Ss
