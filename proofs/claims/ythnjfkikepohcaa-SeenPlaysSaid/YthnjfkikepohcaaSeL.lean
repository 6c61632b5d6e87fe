/- What was seen in a law's own hands, beside a box of its own; the chapter's example. -/
import Derived.Test.YthnjfkikepohcaaSe2
import Derived.Test.YthnjfkikepohcaaSeP
import Derived.Deep.DeepCutAuto
namespace Go.Proofs.Ythnjfkikepohcaa.Se
open Go.RowKit Go.Sort Tk IdM
open St (Kept blk_cell blk_free blk_lt blk_set)
open Wh (Fr Mine)
set_option linter.unusedVariables false

/-- IT, of the law's own, and a box beside it -/
structure In (W : World) (B M : Nat) (s : Its) (b : Nat) (o : Obj) (w : World) : Prop where
  seen : Seen w B M s
  mine : Mine W (SB B M) w
  box : w.heap[b]? = some o
  nb : ¬ SB B M b

section
variable {W w w' : World} {B M b : Nat} {s s' : Its} {o o' : Obj} {n i q a : Int} {u t : Int} {r : Bool}
theorem In.go (h : In W B M s b o w) (k : Kept w w') : In W B M s b o w' := ⟨h.seen.kept k, h.mine.go k, (k.block b (blk_lt h.box)).trans h.box, h.nb⟩
theorem In.kept (h : In W B M s b o w) : Kept W w := h.mine.kept
theorem In.turn (h : In W B M s b o w) (k : Seen w' B M s') (f : Fr (SB B M) w w') : In W B M s' b o w' := ⟨k, h.mine.step f (fun _ c => .inl c), (f.block b (blk_lt h.box) h.nb).trans h.box, h.nb⟩
theorem In.mark (h : In W B M s b o w) (hx : okK ⟨n, i, q, a⟩) (he : Hid (markE ⟨n, i, q, a⟩ u t s = r)) (hs : Hid (markS ⟨n, i, q, a⟩ u t s = s')) :
    Calls Try.prog 8 #[.pointer (some ⟨B, 0, none⟩), .agg #[.int .i64 n, .int .i64 i, .int .i64 q, .int .i64 a], .int .i64 u, .int .i64 t] w fun e w' => e = .returned (.bool r) ∧ In W B M s' b o w' :=
  (mark_any h.seen hx u t).mono fun e w' ⟨h1, h2, h3⟩ => ⟨by rw [h1, he.out], by rw [← hs.out]; exact h.turn h2 h3⟩
theorem In.has (h : In W B M s b o w) (hx : okK ⟨n, i, q, a⟩) (he : Hid (hasK ⟨n, i, q, a⟩ s = r)) :
    Calls Try.prog 10 #[.pointer (some ⟨B, 0, none⟩), .agg #[.int .i64 n, .int .i64 i, .int .i64 q, .int .i64 a]] w fun e w' => e = .returned (.bool r) ∧ In W B M s b o w' :=
  (has_any h.seen hx).mono fun e w' ⟨h1, h2⟩ => ⟨by rw [h1, he.out], h.go h2⟩
theorem In.len (h : In W B M s b o w) {k : Int} (he : Hid ((s.length : Int) = k)) :
    Calls Try.prog 12 #[.pointer (some ⟨B, 0, none⟩)] w fun e w' => e = .returned (.int .i64 k) ∧ w = w' :=
  (len_any h.seen).mono fun e w' ⟨h1, h2⟩ => ⟨by rw [h1, he.out], h2⟩
/-- a new one, and a box that stood when it was made -/
theorem In.new (hB : Seen w' B M []) (hn : ∀ k, SB B M k → w.heap.size ≤ k) (hk : Kept w w') (h0 : Kept W w) (hb : w.heap[b]? = some o) : In W B M [] b o w' :=
  ⟨hB, ⟨h0.trans hk, fun k c => Nat.le_trans h0.size (hn k c)⟩, (hk.block b (blk_lt hb)).trans hb, fun c => by have := hn b c; have := blk_lt hb; omega⟩
/-- a new one, and a box that is made behind it -/
theorem In.newbox (hB : Seen w B M []) (hn : ∀ k, SB B M k → W.heap.size ≤ k) (hk : Kept W w) (o : Obj) : In W B M [] w.heap.size o (w.alloc o) :=
  ⟨hB.kept (Kept.one _ _), ⟨hk.more _, hn⟩, St.blk_new _ _, fun c => by have := hB.lt _ c; omega⟩

def kbox (n i q a : Int) : Obj := .cells #[.int .i64 n, .int .i64 i, .int .i64 q, .int .i64 a] 32 (0, 0)
theorem In.cells (h : In W B M s b (kbox n i q a) w) : w.cell? ⟨b, 0, none⟩ = some (.int .i64 n) ∧ w.cell? ⟨b, 1, none⟩ = some (.int .i64 i) ∧ w.cell? ⟨b, 2, none⟩ = some (.int .i64 q) ∧ w.cell? ⟨b, 3, none⟩ = some (.int .i64 a) := by
  have hb := h.box
  unfold kbox at hb
  exact ⟨by rw [blk_cell hb]; rfl, by rw [blk_cell hb]; rfl, by rw [blk_cell hb]; rfl, by rw [blk_cell hb]; rfl⟩
end

set_option maxHeartbeats 1600000 in
set_option maxRecDepth 100000 in
theorem awake_any (w : World) : Calls Try.prog 13 #[] w fun e w' => e = .returned (.bool true) ∧ Kept w w' := by
  have N := Lib.hid (fun w => new_any w)
  have HX := Lib.hid (show okK ⟨0, 0, 0, 1⟩ by unfold okK I64; simp)
  have e1 := Lib.hid awake_1.1
  have s1 := Lib.hid awake_1.2
  have e2 := Lib.hid awake_2.1
  have s2 := Lib.hid awake_2.2
  have e3 := Lib.hid awake_3.1
  have s3 := Lib.hid awake_3.2
  have l3 := Lib.hid (show ((([] : Its).length : Nat) : Int) = 0 from rfl)
  go_enter Try.func13, Try.ntmps13
  go_upto_region 3 with (go_at_call 7; refine (N.out _).mono ?_; rintro e w1 ⟨B, M, rfl, a1, a2, a3⟩; have HN := Lib.hid (And.intro a1 (And.intro a2 a3)); clear a1 a2 a3)
  have h0 := In.newbox HN.out.1 HN.out.2.1 HN.out.2.2 (kbox 0 0 0 1)
  obtain ⟨b, hb⟩ : ∃ b, w1.heap.size = b := ⟨_, rfl⟩
  obtain ⟨w2, hw2⟩ : ∃ w2, w1.alloc (kbox 0 0 0 1) = w2 := ⟨_, rfl⟩
  rw [hb, hw2] at h0
  obtain ⟨x0, x1, x2, x3⟩ := h0.cells
  unfold kbox at hw2
  rw [hw2, hb]
  clear HN hb hw2 N
  go_wp2_with (first
    | (go_at_call 8; refine (In.mark (by assumption) HX.out (by assumption) (by assumption)).mono ?_; rintro e w3 ⟨rfl, h3⟩; obtain ⟨y0, y1, y2, y3⟩ := h3.cells)
    | (go_at_call 12; refine (In.len (by assumption) (by assumption)).mono ?_; rintro e w4 ⟨rfl, rfl⟩))
  go_ret
  exact ⟨rfl, In.kept (by assumption)⟩

end Go.Proofs.Ythnjfkikepohcaa.Se
