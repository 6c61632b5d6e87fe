/- But for some blocks nothing that was there has turned: a frame by a set of blocks. No function of the program is spoken of here. Slices of structs, of whatever cells: what they hold; appends to them; one element read, or laid; one taken out. No function of the program is spoken of here. -/
import Derived.Test.YtcoagmkncjonmaaDoorSt
import Derived.Maps.AppendAt
import Derived.Laws.AppendOwnNone
import Derived.Laws.CopyOwn
namespace Go.Proofs.YtcoagmkncjonmaaDoor.Wh
open Go.RowKit Go.Sort
open St (Kept blk_cell blk_free blk_lt blk_set)

/-- but for the blocks of S nothing that was there has turned -/
structure Fr (S : Nat → Prop) (w w' : World) : Prop where
  os : w'.os = w.os
  tape : w'.tape = w.tape
  output : w'.output = w.output
  size : w.heap.size ≤ w'.heap.size
  block : ∀ k, k < w.heap.size → ¬ S k → w'.heap[k]? = w.heap[k]?

section
variable {S S' : Nat → Prop} {a w w' w'' : World}
theorem Fr.refl (S : Nat → Prop) (w : World) : Fr S w w := ⟨rfl, rfl, rfl, Nat.le_refl _, fun _ _ _ => rfl⟩
theorem Fr.trans (h : Fr S a w) (k : Fr S' w w') (hs : ∀ i, S' i → S i ∨ a.heap.size ≤ i) : Fr S a w' :=
  ⟨k.os.trans h.os, k.tape.trans h.tape, k.output.trans h.output, Nat.le_trans h.size k.size, fun i hi hn =>
    (k.block i (Nat.lt_of_lt_of_le hi h.size) (fun c => (hs i c).elim hn (fun c => by omega))).trans (h.block i hi hn)⟩
theorem Fr.kept (h : Kept w w') : Fr S w w' := ⟨h.os, h.tape, h.output, h.size, fun k hk _ => h.block k hk⟩
theorem Fr.then_kept (h : Fr S a w) (k : Kept w w') : Fr S a w' := h.trans (Fr.kept (S := S) k) (fun _ c => Or.inl c)
theorem Fr.grow (h : Fr S a w) (os : Array Obj) : Fr S a (grow w os) := h.then_kept ((Kept.refl w).grow os)
theorem Fr.alloc (h : Fr S a w) (o : Obj) : Fr S a (w.alloc o) := h.then_kept (Kept.one w o)
theorem Fr.drew (h : Fr S a w) : Fr S a w.drew := h.then_kept (Kept.refl w).drew
theorem Fr.drewN (h : Fr S a w) (n : Nat) : Fr S a (w.drewN n) := h.then_kept ((Kept.refl w).drewN n)
theorem Fr.setCell (h : Fr S a w) {p : Addr} (hp : S p.block ∨ a.heap.size ≤ p.block) (u : Value) : Fr S a (w.setCell p u) :=
  h.trans (S' := fun i => i = p.block) ⟨rfl, rfl, rfl, by simp [World.setCell], fun k _ hn => Below.heap_setCell _ _ _ _ hn⟩ (fun i c => by subst c; exact hp)
theorem Fr.grown (h : Fr S a w) {row : Option Nat} (hg : w.grownBy w' row) (hr : ∀ k, row = some k → S k ∨ a.heap.size ≤ k) : Fr S a w' :=
  h.trans (S' := fun i => some i = row) ⟨hg.os, hg.tape, hg.output, hg.size, fun k hk hn => hg.block k hk hn⟩ (fun i c => hr i c.symm)
theorem Fr.turned (h : Fr S a w) {M : Nat} (ht : w.mapTurned w' M) (hM : S M ∨ a.heap.size ≤ M) : Fr S a w' :=
  h.grown ht.grown (fun k e => by cases e; exact hM)
theorem Fr.below (h : Fr S w w') {B : Nat} (hB : B ≤ w.heap.size) (hs : ∀ k, S k → B ≤ k) : Below B w w' :=
  ⟨h.os, h.tape, h.output, h.size, fun k hk => h.block k (by omega) (fun c => by have := hs k c; omega)⟩
theorem Fr.keeps (h : Fr S w w') (hs : ∀ k, S k → w.heap.size ≤ k) : Kept w w' := h.below (Nat.le_refl _) hs
theorem Fr.mono (h : Fr S w w') (hs : ∀ k, S k → S' k ∨ w.heap.size ≤ k) : Fr S' w w' :=
  ⟨h.os, h.tape, h.output, h.size, fun k hk hn => h.block k hk (fun c => (hs k c).elim hn (fun c => by omega))⟩
theorem Fr.cell (h : Fr S w w') {p : Addr} {v : Value} (hc : w.cell? p = some v) (hn : ¬ S p.block) : w'.cell? p = some v :=
  (World.cell?_of_block (h.block p.block (World.block_lt_of_cell? w p hc) hn)).trans hc
end

theorem size_set (w : World) (a : Addr) (v : Value) : (w.setCell a v).heap.size = w.heap.size := by simp [World.setCell]

/-- blocks of a call's own: of what was there when it began nothing has turned -/
structure Mine (w0 : World) (S : Nat → Prop) (w : World) : Prop where
  kept : Kept w0 w
  new : ∀ k, S k → w0.heap.size ≤ k
section
variable {w0 w w' : World} {S S' : Nat → Prop}
theorem Mine.step (a : Mine w0 S w) (f : Fr S w w') (s : ∀ k, S' k → S k ∨ w.heap.size ≤ k) : Mine w0 S' w' := by
  have := a.kept.size
  exact ⟨((Fr.kept (S := S) a.kept).trans f (fun k c => Or.inl c)).keeps a.new, fun k c => (s k c).elim (a.new k) (fun c => by omega)⟩
theorem Mine.go (a : Mine w0 S w) (k : Kept w w') : Mine w0 S w' := ⟨a.kept.trans k, a.new⟩
end

end Go.Proofs.YtcoagmkncjonmaaDoor.Wh

namespace Go.Proofs.YtcoagmkncjonmaaDoor.Rv
open Go.RowKit Go.Sort
open St (Kept blk_cell blk_free blk_lt blk_set)
open Wh (Fr Mine)
set_option linter.unusedVariables false

/-- a slice's type, its elements', how many cells one has, those of the zero one, and how an element lies -/
structure EncT {α : Type} (st et : TypeId) (k bs : Nat) (zs : List Value) (enc : α → List Value) : Prop where
  us : Tryd.prog.underlying st = some (.slice et)
  info : (Tryd.prog.info? et).map (fun i => (i.zero, i.size, i.bytes)) = some (some (.agg zs.toArray), k, bs)
  small : bs ≤ 1000
  pos : 0 < k
  zl : zs.length = k
  z1 : ∀ u ∈ zs, u.oneCell' = true
  len : ∀ a, (enc a).length = k
  one : ∀ a, ∀ u ∈ enc a, u.oneCell' = true

section
variable {α : Type} {enc : α → List Value} {k : Nat}
def fl (enc : α → List Value) (L : List α) : List Value := L.flatMap enc
theorem fl_app (L K : List α) : fl enc (L ++ K) = fl enc L ++ fl enc K := List.flatMap_append
theorem fl_one (a : α) : fl enc [a] = enc a := by unfold fl; simp
theorem fl_cons (a : α) (L : List α) : fl enc (a :: L) = enc a ++ fl enc L := by unfold fl; simp
theorem fl_len (hk : ∀ a, (enc a).length = k) : ∀ L : List α, (fl enc L).length = L.length * k
  | [] => by simp [fl]
  | a :: L => by rw [fl_cons, List.length_append, fl_len hk L, hk, List.length_cons, Nat.succ_mul]; omega
theorem fl_at (hk : ∀ a, (enc a).length = k) : ∀ {L : List α} {i : Nat} {a : α}, L[i]? = some a → ∀ {j : Nat} {u : Value}, (enc a)[j]? = some u → (fl enc L)[i * k + j]? = some u
  | [], i, a, h, _, _, _ => by simp at h
  | f :: L, 0, a, h, j, u, hx => by
    simp at h; subst h
    rw [fl_cons, Nat.zero_mul, Nat.zero_add, List.getElem?_append_left (List.getElem?_eq_some_iff.1 hx).1]
    exact hx
  | f :: L, i + 1, a, h, j, u, hx => by
    have ih := fl_at hk (L := L) (i := i) (by simpa using h) hx
    rw [fl_cons, List.getElem?_append_right (by rw [hk, Nat.succ_mul]; omega), hk, show (i + 1) * k + j - k = i * k + j by rw [Nat.succ_mul]; omega]
    exact ih
theorem fl_cell (h1 : ∀ a, ∀ u ∈ enc a, u.oneCell' = true) {L : List α} : ∀ u ∈ fl enc L, u.oneCell' = true := fun u hu => by
  obtain ⟨a, _, h⟩ := List.mem_flatMap.1 hu
  exact h1 a u h
theorem fl_take (hk : ∀ a, (enc a).length = k) (L : List α) (i : Nat) (h : i ≤ L.length) : fl enc (L.take i) = (fl enc L).take (i * k) := by
  have e : fl enc L = fl enc (L.take i) ++ fl enc (L.drop i) := by rw [← fl_app, List.take_append_drop]
  have hl : (fl enc (L.take i)).length = i * k := by rw [fl_len hk, List.length_take, Nat.min_eq_left h]
  rw [e, ← hl, List.take_left]
theorem fl_drop (hk : ∀ a, (enc a).length = k) (L : List α) (i : Nat) (h : i ≤ L.length) : fl enc (L.drop i) = (fl enc L).drop (i * k) := by
  have e : fl enc L = fl enc (L.take i) ++ fl enc (L.drop i) := by rw [← fl_app, List.take_append_drop]
  have hl : (fl enc (L.take i)).length = i * k := by rw [fl_len hk, List.length_take, Nat.min_eq_left h]
  rw [e, ← hl, List.drop_left]
theorem set_split (L : List α) (i : Nat) (a : α) (h : i < L.length) : L.set i a = L.take i ++ a :: L.drop (i + 1) := List.set_eq_take_append_cons_drop.trans (if_pos h)
theorem fl_set (hk : ∀ a, (enc a).length = k) (L : List α) (i : Nat) (a : α) (h : i < L.length) : fl enc (L.set i a) = (fl enc L).take (i * k) ++ enc a ++ (fl enc L).drop (i * k + k) := by
  rw [set_split L i a h, fl_app, fl_cons, fl_take hk L i (by omega), fl_drop hk L (i + 1) (by omega), List.append_assoc, Nat.succ_mul]
theorem fl_erase (hk : ∀ a, (enc a).length = k) (L : List α) (i : Nat) (h : i < L.length) : fl enc (L.eraseIdx i) = (fl enc L).take (i * k) ++ (fl enc L).drop (i * k + k) := by
  rw [List.eraseIdx_eq_take_drop_succ, fl_app, fl_take hk L i (by omega), fl_drop hk L (i + 1) (by omega), Nat.succ_mul]
end

/-- v is a slice of the call's own that holds such elements -/
def RowV {α : Type} (w : World) (v : Value) (et : TypeId) (k : Nat) (enc : α → List Value) (L : List α) : Prop := w.ownsRow 0 et k v L.length (fl enc L)
/-- u is a slice from which such are read -/
def SrcV {α : Type} (w : World) (u : Value) (enc : α → List Value) (K : List α) : Prop := ∃ ad c, u = .slice (some ad) K.length c ∧ ∀ j y, (fl enc K)[j]? = some y → w.cell? (ad.add j) = some y
theorem addr_add (g off j : Nat) : (⟨g, off, none⟩ : Addr).add j = ⟨g, off + j, none⟩ := by unfold Addr.add; split <;> simp_all

section
variable {α : Type} {enc : α → List Value} {w w' : World} {v : Value} {st et : TypeId} {k bs : Nat} {zs : List Value} {L : List α}
theorem RowV.kept (h : RowV w v et k enc L) (hb : ∀ g, v.ownBlock = some g → w'.heap[g]? = w.heap[g]?) : RowV w' v et k enc L := by
  refine ⟨h.1, ?_⟩
  rcases h.2 with hn | ⟨g, cap, cur, rfl, hbb, hgg, r⟩
  · exact .inl hn
  · exact .inr ⟨g, cap, cur, rfl, hbb, (hb g rfl).trans hgg, r⟩
theorem RowV.lt (h : RowV w v et k enc L) {g : Nat} (hg : v.ownBlock = some g) : g < w.heap.size := (World.ownsRow.lt h g hg).2
theorem RowV.keep (h : RowV w v et k enc L) (hk : Kept w w') : RowV w' v et k enc L := h.kept fun g e => hk.block g (h.lt e)
theorem RowV.shape (h : RowV w v et k enc L) : ∃ p n c, v = .slice p n c := by
  rcases h.2 with ⟨e, _⟩ | ⟨g, cap, cur, e, _⟩
  · exact ⟨_, _, _, e⟩
  · exact ⟨_, _, _, e⟩
theorem rowv_nil (w : World) (et : TypeId) (k : Nat) (enc : α → List Value) : RowV w (.slice none 0 0) et k enc [] := World.ownsRow_nil w 0 et k
theorem RowV.len (h : RowV w v et k enc L) (hu : Tryd.prog.underlying st = some (.slice et)) (ty : TypeId) (u : World) : (Builtin.len_ #[st] ty #[v]).run Tryd.prog u = .ok (.int .i64 (L.length : Int)) u := by
  rcases h.2 with ⟨e, hn⟩ | ⟨g, cap, cur, e, _⟩
  · rw [hn, e]; simp [Builtin.len_, run_underlying hu, goInt]
  · subst e; simp [Builtin.len_, run_underlying hu, goInt]
/-- a row with an element is a block -/
theorem RowV.full (h : RowV w v et k enc L) (hne : L ≠ []) : ∃ g cap cur, v = .slice (some ⟨g, 0, none⟩) L.length cap ∧ w.heap[g]? = some (.cells cur et (0, 0)) ∧ L.length ≤ cap ∧ cap ≤ maxLen ∧ cur.size = cap * k ∧ cur.toList.take (L.length * k) = fl enc L := by
  rcases h.2 with ⟨_, hn⟩ | ⟨g, cap, cur, rfl, _, hgg, h1, h2, h3, h4⟩
  · exact absurd (List.length_eq_zero_iff.mp hn) hne
  · exact ⟨g, cap, cur, rfl, hgg, h1, h2, h3, h4⟩
theorem RowV.at (h : RowV w v et k enc L) (hk : ∀ a, (enc a).length = k) {i : Nat} {a : α} (he : L[i]? = some a) : ∃ g cap, v = .slice (some ⟨g, 0, none⟩) L.length cap ∧ L.length ≤ cap ∧ g < w.heap.size ∧ ∀ j x, (enc a)[j]? = some x → w.cell? ⟨g, i * k + j, none⟩ = some x := by
  obtain ⟨g, cap, cur, e, hb, h1, _, _, h4⟩ := h.full (fun c => by rw [c] at he; simp at he)
  refine ⟨g, cap, e, h1, blk_lt hb, fun j x hx => ?_⟩
  have h5 := fl_at hk he hx
  rw [← h4, List.getElem?_take] at h5
  split at h5
  · rw [blk_cell hb, ← Array.getElem?_toList]; exact h5
  · cases h5
theorem RowV.src (h : RowV w v et k enc L) (hne : L ≠ []) : SrcV w v enc L := by
  obtain ⟨g, cap, cur, e, hb, h1, _, _, h4⟩ := h.full hne
  refine ⟨_, cap, e, fun j y hy => ?_⟩
  rw [← h4, List.getElem?_take] at hy
  split at hy
  · rw [addr_add, Nat.zero_add, blk_cell hb, ← Array.getElem?_toList]; exact hy
  · cases hy
theorem src_new (w : World) (et : TypeId) (a : α) : SrcV (w.alloc (.cells (enc a).toArray et)) (.slice (some ⟨w.heap.size, 0, none⟩) 1 1) enc [a] := by
  refine ⟨_, 1, rfl, fun j y hj => ?_⟩
  rw [addr_add, blk_cell (St.blk_new w _), ← Array.getElem?_toList, Nat.zero_add]
  rw [fl_one] at hj; exact hj

/-- 'append(v, u...)' -/
theorem wpList_append_rowv (R : EncT st et k bs zs enc) (w : World) {ops : Array Oper} {rest : List Oper} {o : Oper} {a : Act} {Q : Exit → Act → World → Prop} (hgd : o.guard = none) (s x : Operand)
    (ho : o.op = .call { callee := .builtin .append, args := #[s, x], argTypes := #[st, st] }) (v u : Value) (H K : List α) (hs : a.eval s = v) (hx : a.eval x = u) (hv' : RowV w v et k enc H) (hu : SrcV w u enc K) (hn : H.length + K.length ≤ 1000000)
    (h : ∀ v2 w2, RowV w2 v2 et k enc (H ++ K) → w.grownBy w2 v.ownBlock → (v2.ownBlock = v.ownBlock ∨ ∃ g, v2.ownBlock = some g ∧ w.heap.size ≤ g) → wpList Tryd.prog ops Q rest (a.put o.dst v2) w2) : wpList Tryd.prog ops Q (o :: rest) a w := by
  obtain ⟨i0, hi, hz0, hz1, hz2⟩ := info_parts R.info
  obtain ⟨ad, c, hu1, hu2⟩ := hu
  have hle := R.small
  refine wpList_append_own_at w hgd s x st ho 0 et i0 (.agg zs.toArray) k bs R.us hi hz0 hz1 hz2 (by simp [Value.cells, R.zl]) R.pos v H.length (fl enc H) hs hv' ad K.length c (fl enc K) (hx.trans hu1) (fl_len R.len K) hu2 (fl_cell R.one) ?_ ?_ (Nat.zero_le _) ?_
  · unfold maxLen; omega
  · have h1 : (H.length + K.length) * bs ≤ 1000000 * bs := Nat.mul_le_mul_right _ hn
    have h2 : 1000000 * bs ≤ 1000000 * 1000 := Nat.mul_le_mul_left _ hle
    omega
  · intro v' w' r1 r2 _ r4
    refine h v' w' ?_ r2 (r4.imp id (fun c => ⟨_, c, Nat.le_refl _⟩))
    unfold RowV; rw [List.length_append, fl_app]; exact r1
/-- .. of whatever row of the call's own, an empty one too -/
theorem wpList_append_rowsv (R : EncT st et k bs zs enc) (w : World) {ops : Array Oper} {rest : List Oper} {o : Oper} {a : Act} {Q : Exit → Act → World → Prop} (hgd : o.guard = none) (s x : Operand)
    (ho : o.op = .call { callee := .builtin .append, args := #[s, x], argTypes := #[st, st] }) (v u : Value) (H K : List α) (hs : a.eval s = v) (hx : a.eval x = u) (hv' : RowV w v et k enc H) (hu : RowV w u et k enc K) (hn : H.length + K.length ≤ 1000000)
    (h : ∀ v2 w2, RowV w2 v2 et k enc (H ++ K) → w.grownBy w2 v.ownBlock → (v2.ownBlock = v.ownBlock ∨ ∃ g, v2.ownBlock = some g ∧ w.heap.size ≤ g) → wpList Tryd.prog ops Q rest (a.put o.dst v2) w2) : wpList Tryd.prog ops Q (o :: rest) a w := by
  rcases hu.2 with ⟨hu1, hu2⟩ | ⟨g, cap, cur, hu1, _, hgg, h1, h2, h3, h4⟩
  · have hK : K = [] := List.length_eq_zero_iff.mp hu2
    subst hK
    obtain ⟨i0, hi, hz0, hz1, hz2⟩ := info_parts R.info
    rw [List.append_nil] at h
    exact wpList_append_own_none hgd s x st ho 0 et i0 k R.us hi v H.length (fl enc H) hs hv' (hx.trans hu1) (h v w hv' ⟨rfl, rfl, rfl, Nat.le_refl _, fun _ _ _ => rfl⟩ (Or.inl rfl))
  · refine wpList_append_rowv R w hgd s x ho v u H K hs hx hv' ⟨_, cap, hu1, fun j y hy => ?_⟩ hn h
    rw [← h4, List.getElem?_take] at hy
    split at hy
    · rw [addr_add, Nat.zero_add, blk_cell hgg, ← Array.getElem?_toList]; exact hy
    · cases hy
/-- 'append(v, x)' -/
theorem wpList_append_onev (R : EncT st et k bs zs enc) (wr : World) {ops : Array Oper} {rest : List Oper} {o : Oper} {a : Act} {Q : Exit → Act → World → Prop} (hgd : o.guard = none) (s y : Operand)
    (ho : o.op = .call { callee := .builtin .append, args := #[s, y], argTypes := #[st, st] }) (v : Value) (H : List α) (x : α) (cs : Array Value) (hcs : (enc x).toArray = cs) (hs : a.eval s = v) (hy : a.eval y = .slice (some ⟨wr.heap.size, 0, none⟩) 1 1) (hv' : RowV wr v et k enc H) (hn : H.length ≤ 900000)
    (h : ∀ v2 w2, RowV w2 v2 et k enc (H ++ [x]) → (wr.alloc (.cells cs et)).grownBy w2 v.ownBlock → (v2.ownBlock = v.ownBlock ∨ ∃ g, v2.ownBlock = some g ∧ wr.heap.size ≤ g) → wpList Tryd.prog ops Q rest (a.put o.dst v2) w2) :
    wpList Tryd.prog ops Q (o :: rest) a (wr.alloc (.cells cs et)) := by
  subst hcs
  exact wpList_append_rowv R _ hgd s y ho v _ H [x] hs hy (hv'.kept fun g e => Below.heap_alloc _ _ _ (hv'.lt e)) (src_new wr et x) (by simp; omega) (fun v2 w2 r1 r2 r3 => h v2 w2 r1 r2 (r3.imp id (fun ⟨g, c, d⟩ => ⟨g, c, by simp at d; omega⟩)))
end

/-- an element is laid: 'v[i] = x' -/
theorem wpList_store_elem {α : Type} {enc : α → List Value} {w : World} {st et : TypeId} {k bs : Nat} {zs : List Value} {L : List α} (R : EncT st et k bs zs enc) {ops : Array Oper} {rest : List Oper} {o : Oper} {a : Act} {Q : Exit → Act → World → Prop} (hgd : o.guard = none) (x y : Operand) (ho : o.op = .store et x y)
    (g i cap : Nat) (x0 : α) (cs : Array Value) (hcs : (enc x0).toArray = cs) (hx : a.eval x = .pointer (some ⟨g, i * k, none⟩)) (hy : a.eval y = .agg cs) (hi : i < L.length) (hv : RowV w (.slice (some ⟨g, 0, none⟩) L.length cap) et k enc L)
    (h : ∀ w2, RowV w2 (.slice (some ⟨g, 0, none⟩) L.length cap) et k enc (L.set i x0) → Fr (fun j => j = g) w w2 → wpList Tryd.prog ops Q rest (a.put o.dst undef) w2) : wpList Tryd.prog ops Q (o :: rest) a w := by
  obtain ⟨g', cap', cur, e, hb, h1, h2, h3, h4⟩ := hv.full (fun c => by subst c; simp at hi)
  cases e
  obtain ⟨i0, hi0, hz0, hz1, hz2⟩ := info_parts R.info
  have hik : i * k + k ≤ L.length * k := by rw [← Nat.succ_mul]; exact Nat.mul_le_mul_right _ hi
  have hlk : L.length * k ≤ cap * k := Nat.mul_le_mul_right _ h1
  have hst := run_storeCells_at Tryd.prog g (i * k) et (enc x0) 0 cur w hb (by rw [R.len]; omega) (R.one x0)
  have hcz : cs.size = k := by rw [← hcs]; simp [R.len]
  have hrun : (storeVar et ⟨g, i * k, none⟩ (.agg cs)).run Tryd.prog w = .ok () (w.setRow g (cur.toList.take (i * k) ++ enc x0 ++ cur.toList.drop (i * k + k)).toArray) := by
    have h5 : cs.toList = enc x0 := by rw [← hcs]
    rw [Nat.add_zero, R.len] at hst
    simp [storeVar, sizeOf, typeInfo, hi0, Value.cells, hcz, hz1, h5, hst]
  refine wpList_plain hgd fun K hK => ?_
  unfold Oper.wp execOp
  simp only [ho, hx, hy, Instr.storeAt, Instr.sureAddr, Sem.run_bind, Sem.run_pure, Result.andThen_ok, hrun]
  refine hK _ _ (h _ ⟨?_, .inr ⟨g, cap, _, ?_, Nat.zero_le _, setRow_heap w g cur _ et (0, 0) hb, ?_, h2, ?_, ?_⟩⟩ ⟨rfl, rfl, rfl, by simp, fun j _ hj => setRow_other w g j _ hj⟩)
  · rw [fl_len R.len]
  · rw [List.length_set]
  · rw [List.length_set]; exact h1
  · have := R.len x0; simp [Array.length_toList]; omega
  · rw [List.length_set, fl_set R.len L i x0 hi, ← h4]
    show List.take (L.length * k) (cur.toList.take (i * k) ++ enc x0 ++ cur.toList.drop (i * k + k)) = _
    have hl1 : (cur.toList.take (i * k)).length = i * k := by simp; omega
    rw [List.take_append, List.take_of_length_le (by rw [List.length_append, hl1, R.len]; omega), List.length_append, hl1, R.len, List.take_take, Nat.min_eq_left (by omega), List.drop_take]

end Go.Proofs.YtcoagmkncjonmaaDoor.Rv
