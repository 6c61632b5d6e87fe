/- The document's own wheel: slices of pairs that are appended to; Cancel. -/
import Derived.Test.YtffhjdkhmggakaaRf2
namespace Go.Proofs.Ytffhjdkhmggakaa.Rf
open Go.RowKit Tk Wh
open St (Kept blk_cell blk_free blk_lt blk_set)

/-- pairs, as cells -/
def pv (L : List (Int × Int)) : List Value := L.flatMap fun e => [.int .i64 e.1, .int .i64 e.2]
theorem pv_len : ∀ L : List (Int × Int), (pv L).length = L.length * 2
  | [] => rfl
  | e :: L => by
    have := pv_len L
    unfold pv at *; rw [List.flatMap_cons, List.length_append, this, List.length_cons]; simp; omega
theorem pv_app (L K : List (Int × Int)) : pv (L ++ K) = pv L ++ pv K := List.flatMap_append
theorem pv_at : ∀ {L : List (Int × Int)} {i : Nat} {e : Int × Int}, L[i]? = some e → (pv L)[i * 2]? = some (.int .i64 e.1) ∧ (pv L)[i * 2 + 1]? = some (.int .i64 e.2)
  | [], i, e, h => by simp at h
  | f :: L, 0, e, h => by simp at h; subst h; exact ⟨rfl, rfl⟩
  | f :: L, i + 1, e, h => by
    have := pv_at (L := L) (i := i) (e := e) (by simpa using h)
    unfold pv at *
    rw [List.flatMap_cons, show (i + 1) * 2 = i * 2 + 1 + 1 by omega]
    exact this
theorem pv_of {L : List (Int × Int)} {j : Nat} {y : Value} (h : (pv L)[j]? = some y) : ∃ i e, L[i]? = some e ∧ ((j = i * 2 ∧ y = .int .i64 e.1) ∨ (j = i * 2 + 1 ∧ y = .int .i64 e.2)) := by
  have hl := (List.getElem?_eq_some_iff.1 h).1
  rw [pv_len] at hl
  have hi : j / 2 < L.length := by omega
  refine ⟨j / 2, L[j / 2], List.getElem?_eq_getElem hi, ?_⟩
  obtain ⟨h1, h2⟩ := pv_at (List.getElem?_eq_getElem hi)
  rcases Nat.mod_two_eq_zero_or_one j with c | c
  · have e : j = j / 2 * 2 := by omega
    rw [← e] at h1; rw [h] at h1
    exact Or.inl ⟨e, Option.some.inj h1⟩
  · have e : j = j / 2 * 2 + 1 := by omega
    rw [← e] at h2; rw [h] at h2
    exact Or.inr ⟨e, Option.some.inj h2⟩

/-- v is a slice of the call's own that holds pairs -/
def RowP (w : World) (v : Value) (L : List (Int × Int)) : Prop := w.ownsRow 0 37 2 v L.length (pv L)
/-- u is a slice from which pairs are read -/
def Src (w : World) (u : Value) (K : List (Int × Int)) : Prop := ∃ ad c, u = .slice (some ad) K.length c ∧ ∀ j y, (pv K)[j]? = some y → w.cell? (ad.add j) = some y
theorem info_pair : (Try.prog.info? 37).map (fun i => (i.zero, i.size, i.bytes)) = some (some (.agg #[.int .i64 0, .int .i64 0]), 2, 16) := by kernel_rfl

theorem add_off (g off j : Nat) : (⟨g, off, none⟩ : Addr).add j = ⟨g, off + j, none⟩ := by unfold Addr.add; split <;> simp_all

section
variable {w w' : World} {S S' : Nat → Prop} {B : Nat} {now last to : Int} {v : Value} {L : List (Int × Int)}
theorem RowP.kept {v : Value} {l : List (Int × Int)} (h : RowP w v l) (hb : ∀ g, v.ownBlock = some g → w'.heap[g]? = w.heap[g]?) : RowP w' v l := by
  refine ⟨h.1, ?_⟩
  rcases h.2 with hn | ⟨g, cap, cur, rfl, hbb, hgg, r⟩
  · exact .inl hn
  · exact .inr ⟨g, cap, cur, rfl, hbb, (hb g rfl).trans hgg, r⟩
theorem RowP.lt {v : Value} {l : List (Int × Int)} (h : RowP w v l) {g : Nat} (hg : v.ownBlock = some g) : g < w.heap.size := (World.ownsRow.lt h g hg).2
theorem RowP.shape {v : Value} {l : List (Int × Int)} (h : RowP w v l) : ∃ p n c, v = .slice p n c := by
  rcases h.2 with ⟨e, _⟩ | ⟨g, cap, cur, e, _⟩
  · exact ⟨_, _, _, e⟩
  · exact ⟨_, _, _, e⟩
theorem rowp_nil (w : World) : RowP w (.slice none 0 0) [] := World.ownsRow_nil w 0 37 2
/-- a slice of the call's own is one to read from -/
theorem RowP.prs {v : Value} {l : List (Int × Int)} (h : RowP w v l) : Prs w (fun k => v.ownBlock = some k) v l := by
  rcases h.2 with ⟨e, hn⟩ | ⟨g, cap, cur, e, _, hgg, h1, h2, h3, h4⟩
  · exact .inl ⟨List.length_eq_zero_iff.mp hn, none, 0, e⟩
  · refine .inr ⟨g, 0, cap, e, h1, h2, by rw [e]; rfl, blk_lt hgg, fun i x hx => ?_⟩
    obtain ⟨p1, p2⟩ := pv_at hx
    rw [blk_cell hgg, blk_cell hgg]
    have q1 := take_get h4 p1
    have q2 := take_get h4 p2
    rw [Array.getElem?_toList] at q1 q2
    exact ⟨by rw [Nat.zero_add]; exact q1, by rw [Nat.zero_add]; exact q2⟩
theorem Prs.more (h : Prs w S v L) (hs : ∀ k, S k → S' k) : Prs w S' v L := by
  rcases h with p | ⟨g, off, cap, e, h1, h2, h3, h4, h5⟩
  · exact .inl p
  · exact .inr ⟨g, off, cap, e, h1, h2, hs g h3, h4, h5⟩
end

/-- 'append(v, u...)' of pairs -/
theorem wpList_append_prs (w : World) {ops : Array Oper} {rest : List Oper} {o : Oper} {a : Act} {Q : Exit → Act → World → Prop} (hgd : o.guard = none) (s x : Operand)
    (ho : o.op = .call { callee := .builtin .append, args := #[s, x], argTypes := #[27, 27] }) (v u : Value) (H K : List (Int × Int)) (hs : a.eval s = v) (hx : a.eval x = u) (hv' : RowP w v H) (hu : Src w u K) (hn : H.length + K.length ≤ 1000000)
    (h : ∀ v2 w2, RowP w2 v2 (H ++ K) → w.grownBy w2 v.ownBlock → (v2.ownBlock = v.ownBlock ∨ ∃ g, v2.ownBlock = some g ∧ w.heap.size ≤ g) → wpList Try.prog ops Q rest (a.put o.dst v2) w2) : wpList Try.prog ops Q (o :: rest) a w := by
  obtain ⟨i0, hi, hz0, hz1, hz2⟩ := info_parts info_pair
  obtain ⟨ad, c, hu1, hu2⟩ := hu
  refine wpList_append_own_at w hgd s x 27 ho 0 37 i0 (.agg #[.int .i64 0, .int .i64 0]) 2 16 Try.underlying27 hi hz0 hz1 hz2 rfl (by decide) v H.length (pv H) hs hv' ad K.length c (pv K) (hx.trans hu1) (pv_len K) hu2 ?_ ?_ ?_ (Nat.zero_le _) ?_
  · intro y hy
    obtain ⟨j, hj⟩ := List.mem_iff_getElem?.1 hy
    obtain ⟨i, e, _, h⟩ := pv_of hj
    rcases h with ⟨_, rfl⟩ | ⟨_, rfl⟩ <;> rfl
  · unfold maxLen; omega
  · omega
  · intro v' w' r1 r2 _ r4
    refine h v' w' ?_ r2 (r4.imp id (fun c => ⟨_, c, Nat.le_refl _⟩))
    unfold RowP; rw [List.length_append, pv_app]; exact r1

/-- 'append(v, x)' of a pair -/
theorem wpList_append_pair (wr : World) {ops : Array Oper} {rest : List Oper} {o : Oper} {a : Act} {Q : Exit → Act → World → Prop} (hgd : o.guard = none) (s y : Operand)
    (ho : o.op = .call { callee := .builtin .append, args := #[s, y], argTypes := #[27, 27] }) (v : Value) (H : List (Int × Int)) (x : Int × Int) (hs : a.eval s = v) (hy : a.eval y = .slice (some ⟨wr.heap.size, 0, none⟩) 1 1) (hv' : RowP wr v H) (hn : H.length ≤ 900000)
    (h : ∀ v2 w2, RowP w2 v2 (H ++ [x]) → (wr.alloc (.cells #[.int .i64 x.1, .int .i64 x.2] 37)).grownBy w2 v.ownBlock → (v2.ownBlock = v.ownBlock ∨ ∃ g, v2.ownBlock = some g ∧ wr.heap.size ≤ g) → wpList Try.prog ops Q rest (a.put o.dst v2) w2) :
    wpList Try.prog ops Q (o :: rest) a (wr.alloc (.cells #[.int .i64 x.1, .int .i64 x.2] 37)) := by
  refine wpList_append_prs _ hgd s y ho v _ H [x] hs hy (hv'.kept fun g e => Below.heap_alloc _ _ _ (hv'.lt e)) ⟨_, 1, rfl, fun j y hj => ?_⟩ (by simp; omega) (fun v2 w2 r1 r2 r3 => h v2 w2 r1 r2 (r3.imp id (fun ⟨g, c, d⟩ => ⟨g, c, by simp at d; omega⟩)))
  rw [add_off, blk_cell (St.blk_new wr _), ← Array.getElem?_toList, Nat.zero_add]
  exact hj

end Go.Proofs.Ytffhjdkhmggakaa.Rf
