/- What a wheel is in memory: its block, its map, its lists; and what may turn beside it. -/
import Derived.Test.YtckmkagijanbdaaWm
import Derived.Test.YtckmkagijanbdaaWhEnt
import Derived.Test.YtckmkagijanbdaaSt
namespace Go.Proofs.Ytckmkagijanbdaa.Wh
open Go.RowKit Go.Sort
open St (Kept blk_cell blk_free blk_lt blk_set)

/-- but for the blocks of S nothing that was there has turned -/
structure Fr (S : Nat → Prop) (w w' : World) : Prop where
  os : w'.os = w.os
  tape : w'.tape = w.tape
  output : w'.output = w.output
  size : w.heap.size ≤ w'.heap.size
  block : ∀ k, k < w.heap.size → ¬ S k → w'.heap[k]? = w.heap[k]?

section
variable {S S' : Nat → Prop} {a w w' w'' : World}
theorem Fr.refl (S : Nat → Prop) (w : World) : Fr S w w := ⟨rfl, rfl, rfl, Nat.le_refl _, fun _ _ _ => rfl⟩
theorem Fr.trans (h : Fr S a w) (k : Fr S' w w') (hs : ∀ i, S' i → S i ∨ a.heap.size ≤ i) : Fr S a w' :=
  ⟨k.os.trans h.os, k.tape.trans h.tape, k.output.trans h.output, Nat.le_trans h.size k.size, fun i hi hn =>
    (k.block i (Nat.lt_of_lt_of_le hi h.size) (fun c => (hs i c).elim hn (fun c => by omega))).trans (h.block i hi hn)⟩
theorem Fr.kept (h : Kept w w') : Fr S w w' := ⟨h.os, h.tape, h.output, h.size, fun k hk _ => h.block k hk⟩
theorem Fr.then_kept (h : Fr S a w) (k : Kept w w') : Fr S a w' := h.trans (Fr.kept (S := S) k) (fun _ c => Or.inl c)
theorem Fr.grow (h : Fr S a w) (os : Array Obj) : Fr S a (grow w os) := h.then_kept ((Kept.refl w).grow os)
theorem Fr.alloc (h : Fr S a w) (o : Obj) : Fr S a (w.alloc o) := h.then_kept (Kept.one w o)
theorem Fr.drew (h : Fr S a w) : Fr S a w.drew := h.then_kept (Kept.refl w).drew
theorem Fr.drewN (h : Fr S a w) (n : Nat) : Fr S a (w.drewN n) := h.then_kept ((Kept.refl w).drewN n)
theorem Fr.setCell (h : Fr S a w) {p : Addr} (hp : S p.block ∨ a.heap.size ≤ p.block) (u : Value) : Fr S a (w.setCell p u) :=
  h.trans (S' := fun i => i = p.block) ⟨rfl, rfl, rfl, by simp [World.setCell], fun k _ hn => Below.heap_setCell _ _ _ _ hn⟩ (fun i c => by subst c; exact hp)
theorem Fr.grown (h : Fr S a w) {row : Option Nat} (hg : w.grownBy w' row) (hr : ∀ k, row = some k → S k ∨ a.heap.size ≤ k) : Fr S a w' :=
  h.trans (S' := fun i => some i = row) ⟨hg.os, hg.tape, hg.output, hg.size, fun k hk hn => hg.block k hk hn⟩ (fun i c => hr i c.symm)
theorem Fr.turned (h : Fr S a w) {M : Nat} (ht : w.mapTurned w' M) (hM : S M ∨ a.heap.size ≤ M) : Fr S a w' :=
  h.grown ht.grown (fun k e => by cases e; exact hM)
theorem Fr.below (h : Fr S w w') {B : Nat} (hB : B ≤ w.heap.size) (hs : ∀ k, S k → B ≤ k) : Below B w w' :=
  ⟨h.os, h.tape, h.output, h.size, fun k hk => h.block k (by omega) (fun c => by have := hs k c; omega)⟩
theorem Fr.keeps (h : Fr S w w') (hs : ∀ k, S k → w.heap.size ≤ k) : Kept w w' := h.below (Nat.le_refl _) hs
theorem Fr.mono (h : Fr S w w') (hs : ∀ k, S k → S' k ∨ w.heap.size ≤ k) : Fr S' w w' :=
  ⟨h.os, h.tape, h.output, h.size, fun k hk hn => h.block k hk (fun c => (hs k c).elim hn (fun c => by omega))⟩
theorem Fr.cell (h : Fr S w w') {p : Addr} {v : Value} (hc : w.cell? p = some v) (hn : ¬ S p.block) : w'.cell? p = some v :=
  (World.cell?_of_block (h.block p.block (World.block_lt_of_cell? w p hc) hn)).trans hc
end

/-- a list of handles, as cells -/
def hv (l : List Int) : List Value := l.map (Value.int .i64)
theorem hv_len (l : List Int) : (hv l).length = l.length := List.length_map _
theorem hv_at {l : List Int} {i : Nat} {x : Int} (h : l[i]? = some x) : (hv l)[i]? = some (.int .i64 x) := by simp [hv, h]
/-- v is a slice of the call's own that holds a list -/
def Row (w : World) (v : Value) (l : List Int) : Prop := w.ownsRow 0 3 1 v l.length (hv l)

/-- A WHEEL in block B: its map in block M, its lists' slices sv; S: the blocks that it has -/
structure Is (w : World) (S : Nat → Prop) (B M : Nat) (now last : Int) (sv : Nat → Value) (ls : Nat → List Int) (T : Int → Option Tm) (n : Nat) : Prop where
  blk : ∃ xs, w.heap[B]? = some (.cells xs 95 (0, 0)) ∧ xs.size = 261 ∧ xs[0]? = some (.pointer (some ⟨B, 0, none⟩)) ∧ xs[1]? = some (.int .i64 now) ∧ xs[2]? = some (.int .i64 last) ∧ xs[3]? = some (.map (some M)) ∧
    ∀ i, i < 257 → xs[4 + i]? = some (sv i)
  map : MapIs w M T n
  row : ∀ i, i < 257 → Row w (sv i) (ls i)
  sB : S B
  sM : S M
  sS : ∀ i, i < 257 → ∀ g, (sv i).ownBlock = some g → S g
  apart : ∀ i j, i < 257 → j < 257 → ∀ g, (sv i).ownBlock = some g → (sv j).ownBlock = some g → i = j
  sLt : ∀ k, S k → k < w.heap.size

theorem size_set (w : World) (a : Addr) (v : Value) : (w.setCell a v).heap.size = w.heap.size := by simp [World.setCell]

section
variable {w w' : World} {S : Nat → Prop} {B M : Nat} {now last : Int} {sv : Nat → Value} {ls : Nat → List Int} {T : Int → Option Tm} {n : Nat}

theorem Row.kept {v : Value} {l : List Int} (h : Row w v l) (hb : ∀ g, v.ownBlock = some g → w'.heap[g]? = w.heap[g]?) : Row w' v l := by
  refine ⟨h.1, ?_⟩
  rcases h.2 with hn | ⟨g, cap, cur, rfl, hbb, hgg, r⟩
  · exact .inl hn
  · exact .inr ⟨g, cap, cur, rfl, hbb, (hb g rfl).trans hgg, r⟩
theorem Row.lt {v : Value} {l : List Int} (h : Row w v l) {g : Nat} (hg : v.ownBlock = some g) : g < w.heap.size := (World.ownsRow.lt h g hg).2
theorem Row.cells {v : Value} {l : List Int} (h : Row w v l) {g : Nat} (hg : v.ownBlock = some g) : ∃ cur, w.heap[g]? = some (.cells cur 3 (0, 0)) := by
  rcases h.2 with ⟨rfl, _⟩ | ⟨g', cap, cur, rfl, _, hgg, _⟩
  · simp [Value.ownBlock] at hg
  · simp [Value.ownBlock] at hg; subst hg; exact ⟨cur, hgg⟩
/-- a list with a handle is a block -/
theorem Row.full {v : Value} {l : List Int} (h : Row w v l) (hl : l ≠ []) : ∃ g cap cur, v = .slice (some ⟨g, 0, none⟩) l.length cap ∧ w.heap[g]? = some (.cells cur 3 (0, 0)) ∧ l.length ≤ cap ∧ cap ≤ maxLen ∧ cur.size = cap ∧ cur.toList.take l.length = hv l := by
  rcases h.2 with ⟨_, hn⟩ | ⟨g, cap, cur, rfl, _, hgg, h1, h2, h3, h4⟩
  · exact absurd (List.length_eq_zero_iff.mp hn) hl
  · exact ⟨g, cap, cur, rfl, hgg, h1, h2, by simpa using h3, by simpa using h4⟩
theorem take_get {α : Type} {l m : List α} {n : Nat} (h : l.take n = m) {i : Nat} {x : α} (hx : m[i]? = some x) : l[i]? = some x := by
  rw [← h, List.getElem?_take] at hx
  split at hx
  · exact hx
  · cases hx

theorem Is.cB (h : Is w S B M now last sv ls T n) : w.cell? ⟨B, 0, none⟩ = some (.pointer (some ⟨B, 0, none⟩)) := by
  obtain ⟨xs, hb, _, h0, _⟩ := h.blk; rw [blk_cell hb]; exact h0
theorem Is.c1 (h : Is w S B M now last sv ls T n) : w.cell? ⟨B, 1, none⟩ = some (.int .i64 now) := by
  obtain ⟨xs, hb, _, _, h1, _⟩ := h.blk; rw [blk_cell hb]; exact h1
theorem Is.c2 (h : Is w S B M now last sv ls T n) : w.cell? ⟨B, 2, none⟩ = some (.int .i64 last) := by
  obtain ⟨xs, hb, _, _, _, h1, _⟩ := h.blk; rw [blk_cell hb]; exact h1
theorem Is.c3 (h : Is w S B M now last sv ls T n) : w.cell? ⟨B, 3, none⟩ = some (.map (some M)) := by
  obtain ⟨xs, hb, _, _, _, _, h1, _⟩ := h.blk; rw [blk_cell hb]; exact h1
theorem Is.cl (h : Is w S B M now last sv ls T n) {i : Nat} (hi : i < 257) : w.cell? ⟨B, 4 + i, none⟩ = some (sv i) := by
  obtain ⟨xs, hb, _, _, _, _, _, h1⟩ := h.blk; rw [blk_cell hb]; exact h1 i hi
theorem Is.free (h : Is w S B M now last sv ls T n) (o : Nat) : w.frozen? ⟨B, o, none⟩ = false := by
  obtain ⟨xs, hb, _⟩ := h.blk; exact blk_free hb o
theorem Is.ltB (h : Is w S B M now last sv ls T n) : B < w.heap.size := by obtain ⟨xs, hb, _⟩ := h.blk; exact blk_lt hb
theorem Is.neM (h : Is w S B M now last sv ls T n) : B ≠ M := by
  obtain ⟨xs, hb, _⟩ := h.blk; obtain ⟨es, c, hm⟩ := h.map.is
  intro e; subst e; rw [hb] at hm; cases hm
theorem Is.neg (h : Is w S B M now last sv ls T n) {i : Nat} (hi : i < 257) {g : Nat} (hg : (sv i).ownBlock = some g) : g ≠ B ∧ g ≠ M := by
  obtain ⟨cur, hc⟩ := (h.row i hi).cells hg
  constructor
  · intro e; subst e; obtain ⟨xs, hb, _⟩ := h.blk
    rw [hb] at hc; simp at hc
  · intro e; subst e; obtain ⟨es, c, hm⟩ := h.map.is
    rw [hm] at hc; cases hc

/-- it stays what it is while other blocks turn -/
theorem Is.stay (h : Is w S B M now last sv ls T n) (hz : w.heap.size ≤ w'.heap.size) (hk : ∀ k, S k → k < w.heap.size → w'.heap[k]? = w.heap[k]?) : Is w' S B M now last sv ls T n := by
  obtain ⟨xs, hb, r⟩ := h.blk
  refine ⟨⟨xs, (hk B h.sB h.ltB).trans hb, r⟩, h.map.kept (hk M h.sM h.map.lt), fun i hi => (h.row i hi).kept (fun g hg => hk g (h.sS i hi g hg) ((h.row i hi).lt hg)), h.sB, h.sM, h.sS, h.apart, fun k c => Nat.lt_of_lt_of_le (h.sLt k c) hz⟩
theorem Is.kept (h : Is w S B M now last sv ls T n) (hk : Kept w w') : Is w' S B M now last sv ls T n := h.stay hk.size fun k _ hl => hk.block k hl
theorem Is.fr (h : Is w S B M now last sv ls T n) {S' : Nat → Prop} (hk : Fr S' w w') (hn : ∀ k, S k → ¬ S' k) : Is w' S B M now last sv ls T n := h.stay hk.size fun k hs hl => hk.block k hl (hn k hs)
theorem Is.more (h : Is w S B M now last sv ls T n) {S' : Nat → Prop} (hs : ∀ k, S k → S' k) (hlt : ∀ k, S' k → k < w.heap.size) : Is w S' B M now last sv ls T n :=
  ⟨h.blk, h.map, h.row, hs _ h.sB, hs _ h.sM, fun i hi g hg => hs _ (h.sS i hi g hg), h.apart, hlt⟩

/-- a store into the wheel's own block -/
theorem Is.set1 (h : Is w S B M now last sv ls T n) (to : Int) : Is (w.setCell ⟨B, 1, none⟩ (.int .i64 to)) S B M to last sv ls T n := by
  obtain ⟨xs, hb, hs, h0, h1, h2, h3, h4⟩ := h.blk
  refine ⟨⟨xs.setIfInBounds 1 (.int .i64 to), blk_set hb 1 _, by simpa using hs, by simp [h0], by simp [hs], by simp [h2], by simp [h3], fun i hi => ?_⟩, h.map.kept (Below.heap_setCell _ _ _ _ h.neM.symm), fun i hi => (h.row i hi).kept (fun g hg => Below.heap_setCell _ _ _ _ (h.neg hi hg).1), h.sB, h.sM, h.sS, h.apart, fun k c => by rw [size_set]; exact h.sLt k c⟩
  rw [Array.getElem?_setIfInBounds_ne (by omega)]; exact h4 i hi
theorem Is.set2 (h : Is w S B M now last sv ls T n) (to : Int) : Is (w.setCell ⟨B, 2, none⟩ (.int .i64 to)) S B M now to sv ls T n := by
  obtain ⟨xs, hb, hs, h0, h1, h2, h3, h4⟩ := h.blk
  refine ⟨⟨xs.setIfInBounds 2 (.int .i64 to), blk_set hb 2 _, by simpa using hs, by simp [h0], by simp [h1], by simp [hs], by simp [h3], fun i hi => ?_⟩, h.map.kept (Below.heap_setCell _ _ _ _ h.neM.symm), fun i hi => (h.row i hi).kept (fun g hg => Below.heap_setCell _ _ _ _ (h.neg hi hg).1), h.sB, h.sM, h.sS, h.apart, fun k c => by rw [size_set]; exact h.sLt k c⟩
  rw [Array.getElem?_setIfInBounds_ne (by omega)]; exact h4 i hi
/-- a list's slice is another one, whose block is its own; h speaks of a world from which the wheel has not turned but for that list's block -/
theorem Is.setL' (h : Is w S B M now last sv ls T n) {l : Nat} (hl : l < 257) (hk : ∀ k, S k → (sv l).ownBlock ≠ some k → k < w.heap.size → w'.heap[k]? = w.heap[k]?) {v : Value} {l' : List Int} (hz : w.heap.size ≤ w'.heap.size) (hr : Row w' v l') (hg : ∀ g, v.ownBlock = some g → (sv l).ownBlock = some g ∨ ∀ i, i < 257 → (sv i).ownBlock ≠ some g) :
    Is (w'.setCell ⟨B, 4 + l, none⟩ v) (fun k => S k ∨ v.ownBlock = some k) B M now last (upd sv l v) (upd ls l l') T n := by
  obtain ⟨xs, hb, hs, h0, h1, h2, h3, h4⟩ := h.blk
  have hlB : (sv l).ownBlock ≠ some B := fun e => (h.neg hl e).1 rfl
  have hlM : (sv l).ownBlock ≠ some M := fun e => (h.neg hl e).2 rfl
  have hb' : w'.heap[B]? = some (.cells xs 95 (0, 0)) := (hk B h.sB hlB h.ltB).trans hb
  have hM' : MapIs w' M T n := h.map.kept (hk M h.sM hlM h.map.lt)
  have hneB : ∀ g, v.ownBlock = some g → g ≠ B := fun g e c => by
    obtain ⟨cur, hc⟩ := hr.cells e
    subst c; rw [hb'] at hc; simp at hc
  have hrow : ∀ i, i < 257 → ∀ g, (upd sv l v i).ownBlock = some g → (i = l ∧ v.ownBlock = some g) ∨ (i ≠ l ∧ (sv i).ownBlock = some g) := fun i _ g e => by
    by_cases c : i = l
    · subst c; rw [upd_same] at e; exact Or.inl ⟨rfl, e⟩
    · rw [upd_other _ _ c] at e; exact Or.inr ⟨c, e⟩
  refine ⟨⟨xs.setIfInBounds (4 + l) v, blk_set hb' _ _, by simpa using hs, ?_, ?_, ?_, ?_, fun i hi => ?_⟩, hM'.kept (Below.heap_setCell _ _ _ _ h.neM.symm), fun i hi => ?_, Or.inl h.sB, Or.inl h.sM, fun i hi g e => ?_, fun i j hi hj g e f => ?_, fun k c => by rw [size_set]; exact c.elim (fun c => Nat.lt_of_lt_of_le (h.sLt k c) hz) (fun c => hr.lt c)⟩
  · rw [Array.getElem?_setIfInBounds_ne (by omega)]; exact h0
  · rw [Array.getElem?_setIfInBounds_ne (by omega)]; exact h1
  · rw [Array.getElem?_setIfInBounds_ne (by omega)]; exact h2
  · rw [Array.getElem?_setIfInBounds_ne (by omega)]; exact h3
  · by_cases c : i = l
    · subst c; rw [upd_same, Array.getElem?_setIfInBounds_self_of_lt (by omega)]
    · rw [upd_other _ _ c, Array.getElem?_setIfInBounds_ne (by omega)]; exact h4 i hi
  · by_cases c : i = l
    · subst c; rw [upd_same, upd_same]; exact hr.kept fun g e => Below.heap_setCell _ _ _ _ (hneB g e)
    · rw [upd_other _ _ c, upd_other _ _ c]
      exact (h.row i hi).kept fun g e => (Below.heap_setCell _ _ _ _ (h.neg hi e).1).trans (hk g (h.sS i hi g e) (fun f => c (h.apart i l hi hl g e f)) ((h.row i hi).lt e))
  · rcases hrow i hi g e with ⟨_, e⟩ | ⟨_, e⟩
    · exact Or.inr e
    · exact Or.inl (h.sS i hi g e)
  · rcases hrow i hi g e with ⟨c, e⟩ | ⟨c, e⟩ <;> rcases hrow j hj g f with ⟨d, f⟩ | ⟨d, f⟩
    · rw [c, d]
    · rcases hg g e with k | k
      · exact absurd (h.apart j l hj hl g f k) d
      · exact absurd f (k j hj)
    · rcases hg g f with k | k
      · exact absurd (h.apart i l hi hl g e k) c
      · exact absurd e (k i hi)
    · exact h.apart i j hi hj g e f
theorem Is.setL (h : Is w S B M now last sv ls T n) {l : Nat} (hl : l < 257) {v : Value} {l' : List Int} (hr : Row w v l') (hg : ∀ g, v.ownBlock = some g → (sv l).ownBlock = some g ∨ ∀ i, i < 257 → (sv i).ownBlock ≠ some g) :
    Is (w.setCell ⟨B, 4 + l, none⟩ v) (fun k => S k ∨ v.ownBlock = some k) B M now last (upd sv l v) (upd ls l l') T n := h.setL' hl (fun _ _ _ _ => rfl) (Nat.le_refl _) hr hg
/-- the map turns -/
theorem Is.setM (h : Is w S B M now last sv ls T n) {T' : Int → Option Tm} {n' : Nat} (ht : w.mapTurned w' M) (hm : MapIs w' M T' n') : Is w' S B M now last sv ls T' n' := by
  have hg := ht.grown
  obtain ⟨xs, hb, r⟩ := h.blk
  refine ⟨⟨xs, (hg.block B h.ltB (fun e => h.neM (Option.some.inj e))).trans hb, r⟩, hm, fun i hi => (h.row i hi).kept (fun g e => hg.block g ((h.row i hi).lt e) (fun c => (h.neg hi e).2 (Option.some.inj c))), h.sB, h.sM, h.sS, h.apart, fun k c => Nat.lt_of_lt_of_le (h.sLt k c) hg.size⟩
/-- a cell of a list's block is written -/
theorem Is.setR (h : Is w S B M now last sv ls T n) {l : Nat} (hl : l < 257) {g cap p : Nat} (hv' : sv l = .slice (some ⟨g, 0, none⟩) (ls l).length cap) (x : Int) (hp : p < (ls l).length) :
    Is (w.setCell ⟨g, p, none⟩ (.int .i64 x)) S B M now last sv (upd ls l ((ls l).set p x)) T n := by
  have hg : (sv l).ownBlock = some g := by rw [hv']; rfl
  have hne := h.neg hl hg
  obtain ⟨xs, hb, r⟩ := h.blk
  refine ⟨⟨xs, (Below.heap_setCell _ _ _ _ hne.1.symm).trans hb, r⟩, h.map.kept (Below.heap_setCell _ _ _ _ hne.2.symm), fun i hi => ?_, h.sB, h.sM, h.sS, h.apart, fun k c => by rw [size_set]; exact h.sLt k c⟩
  by_cases c : i = l
  · subst c
    rw [upd_same]
    obtain ⟨g', cap', cur, e1, e2, e3, e4, e5, e6⟩ := (h.row i hi).full (fun c => by rw [c] at hp; simp at hp)
    rw [hv'] at e1
    simp at e1
    obtain ⟨rfl, rfl⟩ := e1
    refine ⟨by simp [hv], .inr ⟨g, cap, cur.setIfInBounds p (.int .i64 x), by rw [hv']; simp, Nat.zero_le _, blk_set e2 p _, by simpa using e3, e4, by simpa using e5, ?_⟩⟩
    have : hv ((ls i).set p x) = (hv (ls i)).set p (.int .i64 x) := by unfold hv; rw [List.map_set]
    rw [this, ← e6]
    simp [List.take_set]
  · rw [upd_other _ _ c]
    exact (h.row i hi).kept fun g' e => Below.heap_setCell _ _ _ _ (fun c' => by
      have c' : g' = g := c'
      subst c'; exact c (h.apart i l hi hl _ e hg))
end

end Go.Proofs.Ytckmkagijanbdaa.Wh
