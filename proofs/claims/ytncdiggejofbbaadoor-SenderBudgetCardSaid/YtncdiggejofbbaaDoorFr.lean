/- But for some blocks nothing that was there has turned: a frame by a set of blocks. No function of the program is spoken of here. -/
import Derived.Test.YtncdiggejofbbaaDoorSt
namespace Go.Proofs.YtncdiggejofbbaaDoor.Wh
open Go.RowKit Go.Sort
open St (Kept blk_cell blk_free blk_lt blk_set)

/-- but for the blocks of S nothing that was there has turned -/
structure Fr (S : Nat → Prop) (w w' : World) : Prop where
  os : w'.os = w.os
  tape : w'.tape = w.tape
  output : w'.output = w.output
  size : w.heap.size ≤ w'.heap.size
  block : ∀ k, k < w.heap.size → ¬ S k → w'.heap[k]? = w.heap[k]?

section
variable {S S' : Nat → Prop} {a w w' w'' : World}
theorem Fr.refl (S : Nat → Prop) (w : World) : Fr S w w := ⟨rfl, rfl, rfl, Nat.le_refl _, fun _ _ _ => rfl⟩
theorem Fr.trans (h : Fr S a w) (k : Fr S' w w') (hs : ∀ i, S' i → S i ∨ a.heap.size ≤ i) : Fr S a w' :=
  ⟨k.os.trans h.os, k.tape.trans h.tape, k.output.trans h.output, Nat.le_trans h.size k.size, fun i hi hn =>
    (k.block i (Nat.lt_of_lt_of_le hi h.size) (fun c => (hs i c).elim hn (fun c => by omega))).trans (h.block i hi hn)⟩
theorem Fr.kept (h : Kept w w') : Fr S w w' := ⟨h.os, h.tape, h.output, h.size, fun k hk _ => h.block k hk⟩
theorem Fr.then_kept (h : Fr S a w) (k : Kept w w') : Fr S a w' := h.trans (Fr.kept (S := S) k) (fun _ c => Or.inl c)
theorem Fr.grow (h : Fr S a w) (os : Array Obj) : Fr S a (grow w os) := h.then_kept ((Kept.refl w).grow os)
theorem Fr.alloc (h : Fr S a w) (o : Obj) : Fr S a (w.alloc o) := h.then_kept (Kept.one w o)
theorem Fr.drew (h : Fr S a w) : Fr S a w.drew := h.then_kept (Kept.refl w).drew
theorem Fr.drewN (h : Fr S a w) (n : Nat) : Fr S a (w.drewN n) := h.then_kept ((Kept.refl w).drewN n)
theorem Fr.setCell (h : Fr S a w) {p : Addr} (hp : S p.block ∨ a.heap.size ≤ p.block) (u : Value) : Fr S a (w.setCell p u) :=
  h.trans (S' := fun i => i = p.block) ⟨rfl, rfl, rfl, by simp [World.setCell], fun k _ hn => Below.heap_setCell _ _ _ _ hn⟩ (fun i c => by subst c; exact hp)
theorem Fr.grown (h : Fr S a w) {row : Option Nat} (hg : w.grownBy w' row) (hr : ∀ k, row = some k → S k ∨ a.heap.size ≤ k) : Fr S a w' :=
  h.trans (S' := fun i => some i = row) ⟨hg.os, hg.tape, hg.output, hg.size, fun k hk hn => hg.block k hk hn⟩ (fun i c => hr i c.symm)
theorem Fr.turned (h : Fr S a w) {M : Nat} (ht : w.mapTurned w' M) (hM : S M ∨ a.heap.size ≤ M) : Fr S a w' :=
  h.grown ht.grown (fun k e => by cases e; exact hM)
theorem Fr.below (h : Fr S w w') {B : Nat} (hB : B ≤ w.heap.size) (hs : ∀ k, S k → B ≤ k) : Below B w w' :=
  ⟨h.os, h.tape, h.output, h.size, fun k hk => h.block k (by omega) (fun c => by have := hs k c; omega)⟩
theorem Fr.keeps (h : Fr S w w') (hs : ∀ k, S k → w.heap.size ≤ k) : Kept w w' := h.below (Nat.le_refl _) hs
theorem Fr.mono (h : Fr S w w') (hs : ∀ k, S k → S' k ∨ w.heap.size ≤ k) : Fr S' w w' :=
  ⟨h.os, h.tape, h.output, h.size, fun k hk hn => h.block k hk (fun c => (hs k c).elim hn (fun c => by omega))⟩
theorem Fr.cell (h : Fr S w w') {p : Addr} {v : Value} (hc : w.cell? p = some v) (hn : ¬ S p.block) : w'.cell? p = some v :=
  (World.cell?_of_block (h.block p.block (World.block_lt_of_cell? w p hc) hn)).trans hc
end

theorem size_set (w : World) (a : Addr) (v : Value) : (w.setCell a v).heap.size = w.heap.size := by simp [World.setCell]

/-- blocks of a call's own: of what was there when it began nothing has turned -/
structure Mine (w0 : World) (S : Nat → Prop) (w : World) : Prop where
  kept : Kept w0 w
  new : ∀ k, S k → w0.heap.size ≤ k
section
variable {w0 w w' : World} {S S' : Nat → Prop}
theorem Mine.step (a : Mine w0 S w) (f : Fr S w w') (s : ∀ k, S' k → S k ∨ w.heap.size ≤ k) : Mine w0 S' w' := by
  have := a.kept.size
  exact ⟨((Fr.kept (S := S) a.kept).trans f (fun k c => Or.inl c)).keeps a.new, fun k c => (s k c).elim (a.new k) (fun c => by omega)⟩
theorem Mine.go (a : Mine w0 S w) (k : Kept w w') : Mine w0 S w' := ⟨a.kept.trans k, a.new⟩
end

end Go.Proofs.YtncdiggejofbbaaDoor.Wh
