/- Slices of integers of a call's own: what they hold, and appends to them. No function of the program is spoken of here. -/
import Derived.Test.YtmimhglegkkcbaaFr
import Derived.Laws.AppendOwnNone
import Derived.Maps.AppendAt
namespace Go.Proofs.Ytmimhglegkkcbaa.Wh
open Go.RowKit Go.Sort
open St (Kept blk_cell blk_free blk_lt blk_set)

/-- a list of handles, as cells -/
def hv (l : List Int) : List Value := l.map (Value.int .i64)
theorem hv_len (l : List Int) : (hv l).length = l.length := List.length_map _
theorem hv_at {l : List Int} {i : Nat} {x : Int} (h : l[i]? = some x) : (hv l)[i]? = some (.int .i64 x) := by simp [hv, h]
/-- v is a slice of the call's own that holds a list -/
def Row (w : World) (v : Value) (l : List Int) : Prop := w.ownsRow 0 3 1 v l.length (hv l)

section
variable {w w' : World}
theorem Row.kept {v : Value} {l : List Int} (h : Row w v l) (hb : ∀ g, v.ownBlock = some g → w'.heap[g]? = w.heap[g]?) : Row w' v l := by
  refine ⟨h.1, ?_⟩
  rcases h.2 with hn | ⟨g, cap, cur, rfl, hbb, hgg, r⟩
  · exact .inl hn
  · exact .inr ⟨g, cap, cur, rfl, hbb, (hb g rfl).trans hgg, r⟩
theorem Row.lt {v : Value} {l : List Int} (h : Row w v l) {g : Nat} (hg : v.ownBlock = some g) : g < w.heap.size := (World.ownsRow.lt h g hg).2
theorem Row.cells {v : Value} {l : List Int} (h : Row w v l) {g : Nat} (hg : v.ownBlock = some g) : ∃ cur, w.heap[g]? = some (.cells cur 3 (0, 0)) := by
  rcases h.2 with ⟨rfl, _⟩ | ⟨g', cap, cur, rfl, _, hgg, _⟩
  · simp [Value.ownBlock] at hg
  · simp [Value.ownBlock] at hg; subst hg; exact ⟨cur, hgg⟩
/-- a list with a handle is a block -/
theorem Row.full {v : Value} {l : List Int} (h : Row w v l) (hl : l ≠ []) : ∃ g cap cur, v = .slice (some ⟨g, 0, none⟩) l.length cap ∧ w.heap[g]? = some (.cells cur 3 (0, 0)) ∧ l.length ≤ cap ∧ cap ≤ maxLen ∧ cur.size = cap ∧ cur.toList.take l.length = hv l := by
  rcases h.2 with ⟨_, hn⟩ | ⟨g, cap, cur, rfl, _, hgg, h1, h2, h3, h4⟩
  · exact absurd (List.length_eq_zero_iff.mp hn) hl
  · exact ⟨g, cap, cur, rfl, hgg, h1, h2, by simpa using h3, by simpa using h4⟩
theorem take_get {α : Type} {l m : List α} {n : Nat} (h : l.take n = m) {i : Nat} {x : α} (hx : m[i]? = some x) : l[i]? = some x := by
  rw [← h, List.getElem?_take] at hx
  split at hx
  · exact hx
  · cases hx

end

theorem info_int : (Try.prog.info? 3).map (fun i => (i.zero, i.size, i.bytes)) = some (some (.int .i64 0), 1, 8) := by kernel_rfl
theorem cell_one (w : World) (t : TypeId) (x : Value) : ∀ j u, [x][j]? = some u → (w.alloc (.cells #[x] t)).cell? ((⟨w.heap.size, 0, none⟩ : Addr).add j) = some u := by
  intro j u hj; match j, hj with | 0, hj => simp at hj; subst hj; simp [Addr.add]

/-- a row's length, told by the builtin -/
theorem Row.len {w : World} {v : Value} {l : List Int} (h : Row w v l) (ty : TypeId) (u : World) : (Builtin.len_ #[34] ty #[v]).run Try.prog u = .ok (.int .i64 (l.length : Int)) u := by
  rcases h.2 with ⟨rfl, hn⟩ | ⟨g, cap, cur, rfl, _⟩
  · rw [hn]; kernel_rfl
  · simp [Builtin.len_, run_underlying Try.underlying34, goInt]

theorem grown_at {w1 W w2 : World} {r : Option Nat} (hW : Kept w1 W) (hg : W.grownBy w2 r) {k : Nat} (hk : k < w1.heap.size) (hr : r ≠ some k) : w2.heap[k]? = w1.heap[k]? :=
  (hg.block k (Nat.lt_of_lt_of_le hk hW.size) (fun e => hr e.symm)).trans (hW.block k hk)


def nilV : Value := .slice none 0 0
theorem row_nil (w : World) : Row w nilV [] := World.ownsRow_nil w 0 3 1

theorem hv_app (l m : List Int) : hv (l ++ m) = hv l ++ hv m := List.map_append
/-- 'append(v, u...)', both the call's own -/
theorem wpList_append_rows (w : World) {ops : Array Oper} {rest : List Oper} {o : Oper} {a : Act} {Q : Exit → Act → World → Prop} (hgd : o.guard = none) (s x : Operand)
    (ho : o.op = .call { callee := .builtin .append, args := #[s, x], argTypes := #[34, 34] }) (v u : Value) (H K : List Int) (hs : a.eval s = v) (hx : a.eval x = u) (hv' : Row w v H) (hu : Row w u K) (hn : H.length + K.length ≤ 1000000)
    (h : ∀ v2 w2, Row w2 v2 (H ++ K) → w.grownBy w2 v.ownBlock → (v2.ownBlock = v.ownBlock ∨ ∃ g, v2.ownBlock = some g ∧ w.heap.size ≤ g) → wpList Try.prog ops Q rest (a.put o.dst v2) w2) : wpList Try.prog ops Q (o :: rest) a w := by
  obtain ⟨i0, hi, hz0, hz1, hz2⟩ := info_parts info_int
  rcases hu.2 with ⟨hu1, hu2⟩ | ⟨g, cap, cur, hu1, _, hgg, h1, h2, h3, h4⟩
  · have hK : K = [] := List.length_eq_zero_iff.mp hu2
    subst hK
    rw [List.append_nil] at h
    exact wpList_append_own_none hgd s x 34 ho 0 3 i0 1 Try.underlying34 hi v H.length (hv H) hs hv' (hx.trans hu1) (h v w hv' ⟨rfl, rfl, rfl, Nat.le_refl _, fun _ _ _ => rfl⟩ (Or.inl rfl))
  · refine wpList_append_own_at w hgd s x 34 ho 0 3 i0 (.int .i64 0) 1 8 Try.underlying34 hi hz0 hz1 hz2 rfl (by decide) v H.length (hv H) hs hv' ⟨g, 0, none⟩ K.length cap (hv K) (hx.trans hu1) (by simp [hv]) ?_ ?_ ?_ ?_ (Nat.zero_le _) ?_
    · intro j y hj
      have e : (⟨g, 0, none⟩ : Addr).add j = ⟨g, j, none⟩ := by unfold Addr.add; split <;> simp_all
      rw [e, St.blk_cell hgg]
      have := take_get (l := cur.toList) (n := K.length * 1) h4 hj
      simpa using this
    · intro y hy
      obtain ⟨z, _, rfl⟩ := List.mem_map.1 hy
      rfl
    · unfold maxLen; omega
    · omega
    · intro v' w' r1 r2 _ r4
      refine h v' w' ?_ r2 (r4.imp id (fun c => ⟨_, c, Nat.le_refl _⟩))
      unfold Row; rw [List.length_append, hv_app]; exact r1

/-- 'append(v, x)', v the call's own -/
theorem wpList_append_one (wr : World) {ops : Array Oper} {rest : List Oper} {o : Oper} {a : Act} {Q : Exit → Act → World → Prop} (hgd : o.guard = none) (s y : Operand)
    (ho : o.op = .call { callee := .builtin .append, args := #[s, y], argTypes := #[34, 34] }) (v : Value) (H : List Int) (x : Int) (hs : a.eval s = v) (hy : a.eval y = .slice (some ⟨wr.heap.size, 0, none⟩) 1 1) (hv' : Row wr v H) (hn : H.length ≤ 1000000)
    (h : ∀ v2 w2, Row w2 v2 (H ++ [x]) → (wr.alloc (.cells #[.int .i64 x] 3)).grownBy w2 v.ownBlock → (v2.ownBlock = v.ownBlock ∨ ∃ g, v2.ownBlock = some g ∧ wr.heap.size ≤ g) → wpList Try.prog ops Q rest (a.put o.dst v2) w2) :
    wpList Try.prog ops Q (o :: rest) a (wr.alloc (.cells #[.int .i64 x] 3)) := by
  obtain ⟨i0, hi, hz0, hz1, hz2⟩ := info_parts info_int
  refine wpList_append_own_at _ hgd s y 34 ho 0 3 i0 (.int .i64 0) 1 8 Try.underlying34 hi hz0 hz1 hz2 rfl (by decide) v H.length (hv H) hs (World.ownsRow.alloc hv' _) ⟨wr.heap.size, 0, none⟩ 1 1 [.int .i64 x] hy rfl (cell_one _ _ _) (by intro u hu; simp at hu; subst hu; rfl) (by unfold maxLen; omega) (by omega) (Nat.zero_le _) ?_
  intro v' w' r1 r2 _ r4
  refine h v' w' ?_ r2 (r4.imp id (fun c => ⟨_, c, by simp⟩))
  unfold Row; rw [List.length_append, hv_app]; exact r1

theorem Row.blk {w : World} {v : Value} {l : List Int} (h : Row w v l) {i : Nat} {x : Int} (hx : l[i]? = some x) : ∃ g cap, v = .slice (some ⟨g, 0, none⟩) l.length cap ∧ w.cell? ⟨g, i, none⟩ = some (.int .i64 x) := by
  obtain ⟨g, cap, cur, e1, e2, e3, e4, e5, e6⟩ := h.full (fun c => by rw [c] at hx; simp at hx)
  refine ⟨g, cap, e1, ?_⟩
  rw [St.blk_cell e2]
  have := take_get e6 (hv_at hx)
  simpa using this

end Go.Proofs.Ytmimhglegkkcbaa.Wh
