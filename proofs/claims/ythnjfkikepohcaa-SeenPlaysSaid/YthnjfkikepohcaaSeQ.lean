/- Both, the program's and the document's, beside a deed's box. -/
import Derived.Test.YthnjfkikepohcaaSeL
import Derived.Test.YthnjfkikepohcaaSeD
import Derived.Test.YthnjfkikepohcaaSr2
namespace Go.Proofs.Ythnjfkikepohcaa.Se
open Go.RowKit Go.Sort Tk IdM
open St (Kept blk_cell blk_free blk_lt blk_set)
open Wh (Fr Mine)
set_option linter.unusedVariables false

/-- BOTH, and a box beside them -/
structure Bt (W : World) (B M R : Nat) (v : Value) (s t : Its) (b : Nat) (o : Obj) (w : World) : Prop where
  a : Seen w B M s
  r : Rsn w R v t
  ap : ∀ k, SB B M k → ¬ SO R v k
  ka : Mine W (SB B M) w
  kr : Mine W (SO R v) w
  box : w.heap[b]? = some o
  ba : ¬ SB B M b
  br : ¬ SO R v b
/-- both, of whatever slice -/
def Bts (W : World) (B M R : Nat) (s t : Its) (b : Nat) (o : Obj) (w : World) : Prop := ∃ v, Bt W B M R v s t b o w
/-- both hold the same -/
def Bo (W : World) (B M R : Nat) (w : World) : Prop := ∃ (v : Value) (s : Its), Seen w B M s ∧ Rsn w R v s ∧ (∀ k, SB B M k → ¬ SO R v k) ∧ Mine W (SB B M) w ∧ Mine W (SO R v) w

section
variable {W w w' : World} {B M R b : Nat} {v v' : Value} {s t s' t' : Its} {o : Obj} {n i q a : Int} {x : Bool}
theorem Bt.go (h : Bt W B M R v s t b o w) (k : Kept w w') : Bt W B M R v s t b o w' :=
  ⟨h.a.kept k, h.r.kept k, h.ap, h.ka.go k, h.kr.go k, (k.block b (blk_lt h.box)).trans h.box, h.ba, h.br⟩
theorem Bt.left (h : Bt W B M R v s t b o w) (c : Seen w' B M s') (f : Fr (SB B M) w w') : Bt W B M R v s' t b o w' :=
  ⟨c, h.r.fr f (fun k c d => h.ap k d c), h.ap, h.ka.step f (fun _ c => .inl c), ⟨(h.ka.step f (fun _ c => .inl c)).kept, h.kr.new⟩, (f.block b (blk_lt h.box) h.ba).trans h.box, h.ba, h.br⟩
theorem Bt.right (h : Bt W B M R v s t b o w) (c : Rsn w' R v' t') (f : Fr (SO R v) w w') (hs : ∀ k, SO R v' k → SO R v k ∨ w.heap.size ≤ k) : Bt W B M R v' s t' b o w' :=
  ⟨h.a.fr f h.ap, c, fun k c d => (hs k d).elim (h.ap k c) (fun e => by have := h.a.lt k c; omega), ⟨(h.kr.step f hs).kept, h.ka.new⟩, h.kr.step f hs, (f.block b (blk_lt h.box) h.br).trans h.box, h.ba, fun c => (hs b c).elim h.br (fun e => by have := blk_lt h.box; omega)⟩
theorem Bt.some (h : Bt W B M R v s t b o w) : Bts W B M R s t b o w := ⟨v, h⟩
theorem Bts.go (h : Bts W B M R s t b o w) (k : Kept w w') : Bts W B M R s t b o w' := by obtain ⟨v, h⟩ := h; exact ⟨v, h.go k⟩
theorem Bts.kept (h : Bts W B M R s t b o w) : Kept W w := by obtain ⟨v, h⟩ := h; exact h.ka.kept
theorem Bts.both (h : Bts W B M R s s b o w) : Bo W B M R w := by obtain ⟨v, h⟩ := h; exact ⟨v, s, h.a, h.r, h.ap, h.ka, h.kr⟩
theorem Bo.kept (h : Bo W B M R w) : Kept W w := by obtain ⟨v, s, h1, h2, h3, h4, h5⟩ := h; exact h4.kept
theorem Bo.go (h : Bo W B M R w) (k : Kept w w') : Bo W B M R w' := by obtain ⟨v, s, h1, h2, h3, h4, h5⟩ := h; exact ⟨v, s, h1.kept k, h2.kept k, h3, h4.go k, h5.go k⟩
theorem Bo.with (h : Bo W B M R w) (o : Obj) : ∃ s, Bts W B M R s s w.heap.size o (w.alloc o) := by
  obtain ⟨v, s, h1, h2, h3, h4, h5⟩ := h
  exact ⟨s, v, h1.kept (Kept.one _ _), h2.kept (Kept.one _ _), h3, h4.go (Kept.one _ _), h5.go (Kept.one _ _), St.blk_new _ _, fun c => by have := h1.lt _ c; omega, fun c => by have := h2.lt _ c; omega⟩

theorem Bts.markA (h : Bts W B M R s t b o w) (hx : okK ⟨n, i, q, a⟩) {u g : Int} (he : Hid (markE ⟨n, i, q, a⟩ u g s = x)) (hs : Hid (markS ⟨n, i, q, a⟩ u g s = s')) :
    Calls Try.prog 8 #[.pointer (some ⟨B, 0, none⟩), .agg #[.int .i64 n, .int .i64 i, .int .i64 q, .int .i64 a], .int .i64 u, .int .i64 g] w fun e w' => e = .returned (.bool x) ∧ Bts W B M R s' t b o w' := by
  obtain ⟨v, h⟩ := h
  exact (mark_any h.a hx u g).mono fun e w' ⟨h1, h2, h3⟩ => ⟨by rw [h1, he.out], v, by rw [← hs.out]; exact h.left h2 h3⟩
theorem Bts.markR (h : Bts W B M R s t b o w) (hx : okK ⟨n, i, q, a⟩) {u g : Int} (he : Hid (markE ⟨n, i, q, a⟩ u g t = x)) (hs : Hid (markS ⟨n, i, q, a⟩ u g t = t')) :
    Calls Try.prog 9 #[.pointer (some ⟨R, 0, none⟩), .agg #[.int .i64 n, .int .i64 i, .int .i64 q, .int .i64 a], .int .i64 u, .int .i64 g] w fun e w' => e = .returned (.bool x) ∧ Bts W B M R s t' b o w' := by
  obtain ⟨v, h⟩ := h
  exact (rmark_any h.r hx u g).mono fun e w' ⟨h1, v', h2, h3, h4⟩ => ⟨by rw [h1, he.out], v', by rw [← hs.out]; exact h.right h2 h3 h4⟩
theorem Bts.hasA (h : Bts W B M R s t b o w) (hx : okK ⟨n, i, q, a⟩) (he : Hid (hasK ⟨n, i, q, a⟩ s = x)) :
    Calls Try.prog 10 #[.pointer (some ⟨B, 0, none⟩), .agg #[.int .i64 n, .int .i64 i, .int .i64 q, .int .i64 a]] w fun e w' => e = .returned (.bool x) ∧ Bts W B M R s t b o w' := by
  obtain ⟨v, h⟩ := h
  exact (has_any h.a hx).mono fun e w' ⟨h1, h2⟩ => ⟨by rw [h1, he.out], v, h.go h2⟩
theorem Bts.hasR (h : Bts W B M R s t b o w) (he : Hid (hasK ⟨n, i, q, a⟩ t = x)) :
    Calls Try.prog 11 #[.pointer (some ⟨R, 0, none⟩), .agg #[.int .i64 n, .int .i64 i, .int .i64 q, .int .i64 a]] w fun e w' => e = .returned (.bool x) ∧ Bts W B M R s t b o w' := by
  obtain ⟨v, h⟩ := h
  exact (rhas_any h.r n i q a).mono fun e w' ⟨h1, h2⟩ => ⟨by rw [h1, he.out], v, h.go h2⟩
theorem Bts.lenA (h : Bts W B M R s t b o w) {k : Int} (he : Hid ((s.length : Int) = k)) :
    Calls Try.prog 12 #[.pointer (some ⟨B, 0, none⟩)] w fun e w' => e = .returned (.int .i64 k) ∧ w = w' := by
  obtain ⟨v, h⟩ := h
  exact (len_any h.a).mono fun e w' ⟨h1, h2⟩ => ⟨by rw [h1, he.out], h2⟩
/-- the document's list: where it lies now -/
theorem Bts.list (h : Bts W B M R s t b o w) : ∃ p m c, w.cell? ⟨R, 0, none⟩ = some (.slice p m c) ∧ (∀ ty u, (Builtin.len_ #[26] ty #[.slice p m c]).run Try.prog u = .ok (.int .i64 (t.length : Int)) u) ∧ Bt W B M R (.slice p m c) s t b o w := by
  obtain ⟨v, h⟩ := h
  obtain ⟨p, m, c, rfl⟩ := h.r.row.shape
  exact ⟨p, m, c, h.r.c0, h.r.len, h⟩

def dbox (n i q a u g : Int) : Obj := .cells #[.int .i64 n, .int .i64 i, .int .i64 q, .int .i64 a, .int .i64 u, .int .i64 g] 34 (0, 0)
theorem Bts.cells {u g : Int} (h : Bts W B M R s t b (dbox n i q a u g) w) : w.cell? ⟨b, 0, none⟩ = some (.int .i64 n) ∧ w.cell? ⟨b, 1, none⟩ = some (.int .i64 i) ∧ w.cell? ⟨b, 2, none⟩ = some (.int .i64 q) ∧ w.cell? ⟨b, 3, none⟩ = some (.int .i64 a) ∧ w.cell? ⟨b, 4, none⟩ = some (.int .i64 u) ∧ w.cell? ⟨b, 5, none⟩ = some (.int .i64 g) := by
  obtain ⟨v, h⟩ := h
  have hb := h.box
  unfold dbox at hb
  exact ⟨by rw [blk_cell hb]; rfl, by rw [blk_cell hb]; rfl, by rw [blk_cell hb]; rfl, by rw [blk_cell hb]; rfl, by rw [blk_cell hb]; rfl, by rw [blk_cell hb]; rfl⟩
end

end Go.Proofs.Ythnjfkikepohcaa.Se
