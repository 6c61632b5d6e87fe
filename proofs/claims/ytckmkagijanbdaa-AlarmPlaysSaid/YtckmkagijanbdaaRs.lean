/- Slices of structs of integers: what they hold, and appends to them. No function of the program is spoken of here. -/
import Derived.Test.YtckmkagijanbdaaAlMap
import Derived.Test.YtckmkagijanbdaaSt
import Derived.Maps.AppendAt
namespace Go.Proofs.Ytckmkagijanbdaa.Al
open Go.RowKit Go.Sort
open St (Kept blk_cell blk_free blk_lt blk_set)
set_option linter.unusedVariables false

/-- a slice's type, and its elements': structs of k integers -/
structure RowT (st et : TypeId) (k : Nat) : Prop where
  us : Try.prog.underlying st = some (.slice et)
  info : (Try.prog.info? et).map (fun i => (i.zero, i.size, i.bytes)) = some (some (iv (List.replicate k 0)), k, k * 8)
  pos : 0 < k
  le : k ≤ 8

def fl (L : List (List Int)) : List Value := L.flatMap fun l => l.map (Value.int .i64)
def Wide (k : Nat) (L : List (List Int)) : Prop := ∀ l ∈ L, l.length = k
theorem fl_app (L K : List (List Int)) : fl (L ++ K) = fl L ++ fl K := List.flatMap_append
theorem fl_one (l : List Int) : fl [l] = l.map (Value.int .i64) := by unfold fl; simp
theorem wide_app {k : Nat} {L K : List (List Int)} (h : Wide k L) (h2 : Wide k K) : Wide k (L ++ K) := fun l hl => (List.mem_append.1 hl).elim (h l) (h2 l)
theorem wide_one {k : Nat} {l : List Int} (h : l.length = k) : Wide k [l] := fun m hm => by rw [List.mem_singleton.1 hm]; exact h
theorem fl_len {k : Nat} : ∀ {L : List (List Int)}, Wide k L → (fl L).length = L.length * k
  | [], _ => by simp [fl]
  | l :: L, h => by
    have ih := fl_len (L := L) (fun m hm => h m (by simp [hm]))
    have hl := h l (by simp)
    unfold fl at *
    rw [List.flatMap_cons, List.length_append, ih, List.length_map, hl, List.length_cons, Nat.succ_mul]; omega
theorem fl_at {k : Nat} : ∀ {L : List (List Int)}, Wide k L → ∀ {i : Nat} {l : List Int}, L[i]? = some l → ∀ {j : Nat} {x : Int}, l[j]? = some x → (fl L)[i * k + j]? = some (.int .i64 x)
  | [], _, i, l, h, _, _, _ => by simp at h
  | f :: L, hw, 0, l, h, j, x, hx => by
    simp at h; subst h
    unfold fl
    rw [List.flatMap_cons, Nat.zero_mul, Nat.zero_add, List.getElem?_append_left (by rw [List.length_map]; exact (List.getElem?_eq_some_iff.1 hx).1)]
    simp [hx]
  | f :: L, hw, i + 1, l, h, j, x, hx => by
    have ih := fl_at (L := L) (fun m hm => hw m (by simp [hm])) (i := i) (by simpa using h) hx
    have hf := hw f (by simp)
    unfold fl at *
    rw [List.flatMap_cons, List.getElem?_append_right (by rw [List.length_map, hf, Nat.succ_mul]; omega), List.length_map, hf]
    rw [show (i + 1) * k + j - k = i * k + j by rw [Nat.succ_mul]; omega]
    exact ih
theorem fl_cell {L : List (List Int)} : ∀ u ∈ fl L, u.oneCell' = true := fun u hu => by
  unfold fl at hu
  obtain ⟨l, _, h⟩ := List.mem_flatMap.1 hu
  obtain ⟨x, _, rfl⟩ := List.mem_map.1 h
  rfl

/-- v is a slice of the call's own that holds structs of k integers -/
def RowI (w : World) (v : Value) (et : TypeId) (k : Nat) (L : List (List Int)) : Prop := w.ownsRow 0 et k v L.length (fl L) ∧ Wide k L
/-- u is a slice from which such are read -/
def SrcI (w : World) (u : Value) (k : Nat) (K : List (List Int)) : Prop := ∃ ad c, u = .slice (some ad) K.length c ∧ ∀ j y, (fl K)[j]? = some y → w.cell? (ad.add j) = some y
theorem addr_add (g off j : Nat) : (⟨g, off, none⟩ : Addr).add j = ⟨g, off + j, none⟩ := by unfold Addr.add; split <;> simp_all

section
variable {w w' : World} {v : Value} {st et : TypeId} {k : Nat} {L : List (List Int)}
theorem RowI.kept (h : RowI w v et k L) (hb : ∀ g, v.ownBlock = some g → w'.heap[g]? = w.heap[g]?) : RowI w' v et k L := by
  refine ⟨⟨h.1.1, ?_⟩, h.2⟩
  rcases h.1.2 with hn | ⟨g, cap, cur, rfl, hbb, hgg, r⟩
  · exact .inl hn
  · exact .inr ⟨g, cap, cur, rfl, hbb, (hb g rfl).trans hgg, r⟩
theorem RowI.lt (h : RowI w v et k L) {g : Nat} (hg : v.ownBlock = some g) : g < w.heap.size := (World.ownsRow.lt h.1 g hg).2
theorem RowI.keep (h : RowI w v et k L) (hk : Kept w w') : RowI w' v et k L := h.kept fun g e => hk.block g (h.lt e)
theorem RowI.shape (h : RowI w v et k L) : ∃ p n c, v = .slice p n c := by
  rcases h.1.2 with ⟨e, _⟩ | ⟨g, cap, cur, e, _⟩
  · exact ⟨_, _, _, e⟩
  · exact ⟨_, _, _, e⟩
theorem rowi_nil (w : World) (et : TypeId) (k : Nat) : RowI w (.slice none 0 0) et k [] := ⟨World.ownsRow_nil w 0 et k, fun l h => by simp at h⟩
theorem RowI.nil (h : RowI w v et k []) : ∃ p cap, v = .slice p 0 cap := by
  rcases h.1.2 with ⟨e, _⟩ | ⟨g, cap, cur, e, _⟩
  · exact ⟨_, _, e⟩
  · exact ⟨_, _, e⟩
theorem RowI.len (h : RowI w v et k L) (hu : Try.prog.underlying st = some (.slice et)) (ty : TypeId) (u : World) : (Builtin.len_ #[st] ty #[v]).run Try.prog u = .ok (.int .i64 (L.length : Int)) u := by
  rcases h.1.2 with ⟨e, hn⟩ | ⟨g, cap, cur, e, _⟩
  · rw [hn, e]; simp [Builtin.len_, run_underlying hu, goInt]
  · subst e; simp [Builtin.len_, run_underlying hu, goInt]
/-- a row with an element is a block -/
theorem RowI.full (h : RowI w v et k L) (hne : L ≠ []) : ∃ g cap cur, v = .slice (some ⟨g, 0, none⟩) L.length cap ∧ w.heap[g]? = some (.cells cur et (0, 0)) ∧ L.length ≤ cap ∧ cap ≤ maxLen ∧ cur.size = cap * k ∧ cur.toList.take (L.length * k) = fl L := by
  rcases h.1.2 with ⟨_, hn⟩ | ⟨g, cap, cur, rfl, _, hgg, h1, h2, h3, h4⟩
  · exact absurd (List.length_eq_zero_iff.mp hn) hne
  · exact ⟨g, cap, cur, rfl, hgg, h1, h2, h3, h4⟩
theorem RowI.at (h : RowI w v et k L) {i : Nat} {l : List Int} (he : L[i]? = some l) : ∃ g cap, v = .slice (some ⟨g, 0, none⟩) L.length cap ∧ L.length ≤ cap ∧ g < w.heap.size ∧ ∀ j x, l[j]? = some x → w.cell? ⟨g, i * k + j, none⟩ = some (.int .i64 x) := by
  obtain ⟨g, cap, cur, e, hb, h1, _, _, h4⟩ := h.full (fun c => by rw [c] at he; simp at he)
  refine ⟨g, cap, e, h1, blk_lt hb, fun j x hx => ?_⟩
  have h5 := fl_at h.2 he hx
  rw [← h4, List.getElem?_take] at h5
  split at h5
  · rw [blk_cell hb, ← Array.getElem?_toList]; exact h5
  · cases h5
theorem RowI.src (h : RowI w v et k L) (hne : L ≠ []) : SrcI w v k L := by
  obtain ⟨g, cap, cur, e, hb, h1, _, _, h4⟩ := h.full hne
  refine ⟨_, cap, e, fun j y hy => ?_⟩
  rw [← h4, List.getElem?_take] at hy
  split at hy
  · rw [addr_add, Nat.zero_add, blk_cell hb, ← Array.getElem?_toList]; exact hy
  · cases hy
theorem SrcI.kept {u : Value} {K : List (List Int)} (h : SrcI w u k K) (hk : ∀ g, g < w.heap.size → u.ownBlock = some g → w'.heap[g]? = w.heap[g]?) : SrcI w' u k K := by
  obtain ⟨ad, c, rfl, hc⟩ := h
  refine ⟨ad, c, rfl, fun j y hj => ?_⟩
  have h1 := hc j y hj
  have hb : (ad.add j).block = ad.block := by unfold Addr.add; split <;> rfl
  have hlt := World.block_lt_of_cell? w _ h1
  rw [hb] at hlt
  exact (World.cell?_of_block (w := w) (by rw [hb]; exact hk ad.block hlt rfl)).trans h1
theorem src_new (w : World) (et : TypeId) (l : List Int) : SrcI (w.alloc (.cells (l.map (Value.int .i64)).toArray et)) (.slice (some ⟨w.heap.size, 0, none⟩) 1 1) k [l] := by
  refine ⟨_, 1, rfl, fun j y hj => ?_⟩
  rw [addr_add, blk_cell (St.blk_new w _), ← Array.getElem?_toList, Nat.zero_add]
  rw [fl_one] at hj; exact hj

/-- 'append(v, u...)' -/
theorem wpList_append_rowi (R : RowT st et k) (w : World) {ops : Array Oper} {rest : List Oper} {o : Oper} {a : Act} {Q : Exit → Act → World → Prop} (hgd : o.guard = none) (s x : Operand)
    (ho : o.op = .call { callee := .builtin .append, args := #[s, x], argTypes := #[st, st] }) (v u : Value) (H K : List (List Int)) (hs : a.eval s = v) (hx : a.eval x = u) (hv' : RowI w v et k H) (hu : SrcI w u k K) (hK : Wide k K) (hn : H.length + K.length ≤ 1000000)
    (h : ∀ v2 w2, RowI w2 v2 et k (H ++ K) → w.grownBy w2 v.ownBlock → (v2.ownBlock = v.ownBlock ∨ ∃ g, v2.ownBlock = some g ∧ w.heap.size ≤ g) → wpList Try.prog ops Q rest (a.put o.dst v2) w2) : wpList Try.prog ops Q (o :: rest) a w := by
  obtain ⟨i0, hi, hz0, hz1, hz2⟩ := info_parts R.info
  obtain ⟨ad, c, hu1, hu2⟩ := hu
  have hle := R.le
  refine wpList_append_own_at w hgd s x st ho 0 et i0 (iv (List.replicate k 0)) k (k * 8) R.us hi hz0 hz1 hz2 (by unfold iv; simp [Value.cells]) R.pos v H.length (fl H) hs hv'.1 ad K.length c (fl K) (hx.trans hu1) (fl_len hK) hu2 fl_cell ?_ ?_ (Nat.zero_le _) ?_
  · unfold maxLen; omega
  · have h1 : (H.length + K.length) * (k * 8) ≤ 1000000 * (k * 8) := Nat.mul_le_mul_right _ hn
    have h2 : 1000000 * (k * 8) ≤ 1000000 * (8 * 8) := Nat.mul_le_mul_left _ (Nat.mul_le_mul_right _ hle)
    omega
  · intro v' w' r1 r2 _ r4
    refine h v' w' ⟨?_, wide_app hv'.2 hK⟩ r2 (r4.imp id (fun c => ⟨_, c, Nat.le_refl _⟩))
    rw [List.length_append, fl_app]; exact r1
/-- 'append(v, x)' -/
theorem wpList_append_onei (R : RowT st et k) (wr : World) {ops : Array Oper} {rest : List Oper} {o : Oper} {a : Act} {Q : Exit → Act → World → Prop} (hgd : o.guard = none) (s y : Operand)
    (ho : o.op = .call { callee := .builtin .append, args := #[s, y], argTypes := #[st, st] }) (v : Value) (H : List (List Int)) (l : List Int) (hs : a.eval s = v) (hy : a.eval y = .slice (some ⟨wr.heap.size, 0, none⟩) 1 1) (hv' : RowI wr v et k H) (hl : l.length = k) (hn : H.length ≤ 900000)
    (h : ∀ v2 w2, RowI w2 v2 et k (H ++ [l]) → (wr.alloc (.cells (l.map (Value.int .i64)).toArray et)).grownBy w2 v.ownBlock → (v2.ownBlock = v.ownBlock ∨ ∃ g, v2.ownBlock = some g ∧ wr.heap.size ≤ g) → wpList Try.prog ops Q rest (a.put o.dst v2) w2) :
    wpList Try.prog ops Q (o :: rest) a (wr.alloc (.cells (l.map (Value.int .i64)).toArray et)) :=
  wpList_append_rowi R _ hgd s y ho v _ H [l] hs hy (hv'.kept fun g e => Below.heap_alloc _ _ _ (hv'.lt e)) (src_new wr et l) (wide_one hl) (by simp; omega) (fun v2 w2 r1 r2 r3 => h v2 w2 r1 r2 (r3.imp id (fun ⟨g, c, d⟩ => ⟨g, c, by simp at d; omega⟩)))
end

theorem rowN : RowT 40 42 5 := ⟨Try.underlying40, by kernel_rfl, by omega, by omega⟩

theorem rowA : RowT 37 45 6 := ⟨Try.underlying37, by kernel_rfl, by omega, by omega⟩

theorem rowR : RowT 73 33 5 := ⟨Try.underlying73, by kernel_rfl, by omega, by omega⟩

end Go.Proofs.Ytckmkagijanbdaa.Al
