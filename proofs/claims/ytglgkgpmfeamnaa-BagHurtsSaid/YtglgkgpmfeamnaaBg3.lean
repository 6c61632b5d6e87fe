/- Sending a flight, in both bags. -/
import Derived.Test.YtglgkgpmfeamnaaBg2
import Derived.Deep.AppendLies
import Derived.Deep.RegionLaw
namespace Go.Proofs.Ytglgkgpmfeamnaa.Bg
open Go.RowKit Go.Sort Rv
open St (Kept blk_cell blk_free blk_lt blk_set)
open Wh (Fr Mine)
set_option linter.unusedVariables false

theorem cell_new (W : World) (et : TypeId) (f : Fl) : ∀ j u, (enc f)[j]? = some u → (W.alloc (.cells #[.int .i64 f.fr, .int .i64 f.to, .string f.s, .bool f.h] et)).cell? ((⟨W.heap.size, 0, none⟩ : Addr).add j) = some u := by
  intro j u hj
  rw [addr_add, Nat.zero_add, World.cell?_alloc_new, ← Array.getElem?_toList]
  exact hj
theorem row_snoc {w : World} {v : Value} {et : TypeId} {L : List Fl} {f : Fl} (h : w.ownsRow 0 et 4 v (L.length + 1) (fl enc L ++ enc f)) : RowV w v et 4 enc (L ++ [f]) := by
  unfold RowV; rw [List.length_append, fl_app, fl_one]; exact h
theorem lies_or {v : Value} {g m cap H H' : Nat} (h : v.ownBlock = some g ∨ g = H) (hH : H' ≤ H := by exact Nat.le_refl _) : (Value.slice (some ⟨g, 0, none⟩) m cap).ownBlock = v.ownBlock ∨ ∃ g', (Value.slice (some ⟨g, 0, none⟩) m cap).ownBlock = some g' ∧ H' ≤ g' :=
  h.elim (fun c => .inl c.symm) (fun c => .inr ⟨g, rfl, by omega⟩)
section
variable {bt et : TypeId} {w w' W w2 w3 : World} {B : Nat} {v v2 : Value} {s s' : Sta} {f : Fl} {r : Value} {e : Ending}
theorem Turns.more (h : Turns bt et w B v s' r e w2) (k : Kept w2 w3) : Turns bt et w B v s' r e w3 := by
  obtain ⟨h1, v', h2, h3, h4⟩ := h
  exact ⟨h1, v', h2.kept k, h3.then_kept k, h4⟩
/-- a bag whose slice is another one -/
theorem Bag.other (h : Bag bt et w B v s) (k1 : Kept w W) (hg : W.grownBy w2 v.ownBlock) (hr : RowV w2 v2 et 4 enc s'.L) (hb : v2.ownBlock = v.ownBlock ∨ ∃ g, v2.ownBlock = some g ∧ W.heap.size ≤ g) (hl : s'.L.length ≤ 256) (hs : s'.lost = s.lost) (he : e = .returned r) :
    Turns bt et w B v s' r e (w2.setCell ⟨B, 0, none⟩ v2) := by
  have hz := k1.size
  have hB := blk_lt h.blk
  have hv2 : ∀ g, v2.ownBlock = some g → g ≠ B ∧ (v.ownBlock = some g ∨ w.heap.size ≤ g) := fun g c => by
    rcases hb with d | ⟨g', d, e⟩
    · rw [d] at c; exact ⟨h.ne g c, .inl c⟩
    · rw [d] at c; obtain rfl := Option.some.inj c; exact ⟨by omega, .inr (by omega)⟩
  have hblk : w2.heap[B]? = some (.cells #[v, .int .i64 (s.lost : Int)] bt (0, 0)) := (hg.block B (by omega) (fun c => h.ne B c.symm rfl)).trans ((k1.block B hB).trans h.blk)
  have F : Fr (Own B v) w w2 := (Fr.kept k1).grown hg (fun k c => .inl (.inr c))
  refine ⟨he, v2, ⟨by have := blk_set hblk 0 v2; rw [hs]; exact this, hr.kept fun g c => Below.heap_setCell _ _ _ _ (hv2 g c).1, fun g c => (hv2 g c).1, hl⟩, F.setCell (.inl (.inl rfl)) _, ?_⟩
  rintro k (c | c)
  · exact .inl (.inl c)
  · exact (hv2 k c).2.imp .inr id
theorem Bag.cells_then (h : Bag bt et w B v s) (k1 : Kept w W) (hg : W.grownBy w2 v.ownBlock) : w2.cell? ⟨B, 0, none⟩ = some v ∧ w2.frozen? ⟨B, 0, none⟩ = false := by
  have hblk : w2.heap[B]? = some (.cells #[v, .int .i64 (s.lost : Int)] bt (0, 0)) := (hg.block B (by have := k1.size; have := blk_lt h.blk; omega) (fun c => h.ne B c.symm rfl)).trans ((k1.block B (blk_lt h.blk)).trans h.blk)
  exact ⟨by rw [blk_cell hblk]; rfl, blk_free hblk 0⟩
theorem send_room (h : s.L.length < 256) : sendS s f = ⟨s.L ++ [f], s.lost⟩ ∧ sendE s = 0 := ⟨if_pos h, if_pos h⟩
theorem send_full (h : ¬ s.L.length < 256) : sendS s f = ⟨s.L, s.lost + 1⟩ ∧ sendE s = 6 := ⟨if_neg h, if_neg h⟩
theorem Bag.losing (h : Bag bt et w B v s) (k1 : Kept w W) (he : e = .returned r) : Turns bt et w B v ⟨s.L, s.lost + 1⟩ r e (W.setCell ⟨B, 1, none⟩ (.int .i64 ((s.lost : Int) + 1))) := by
  have h' := h.kept k1
  refine ⟨he, v, ⟨blk_set h'.blk 1 _, h'.row.kept fun g c => Below.heap_setCell _ _ _ _ (h.ne g c), h.ne, h.len⟩, (Fr.kept k1).setCell (.inl (.inl rfl)) _, fun k c => .inl c⟩

set_option maxHeartbeats 1600000 in
theorem send_any (h : Bag 49 36 w B v s) (hlost : s.lost ≤ 1000000) (f : Fl) : Calls Try.prog 13 #[PB B, agg f] w (Turns 49 36 w B v (sendS s f) (.int .i64 (sendE s))) := by
  have c0 := h.c0
  have c1 := h.c1
  have f1 := blk_free h.blk 1
  have hB := blk_lt h.blk
  have hl := fun ty u => h.row.len encP.us ty u
  obtain ⟨n, hn⟩ : ∃ n : Int, (s.L.length : Int) = n := ⟨_, rfl⟩
  rw [hn] at hl
  by_cases hlt : s.L.length < 256
  · obtain ⟨e1, e2⟩ := send_room (f := f) hlt
    have hn' : n < 256 := by omega
    have FIN := Lib.hid (fun W w2 v2 k1 hg hr hb => Bag.other (s' := sendS s f) (W := W) (w2 := w2) (v2 := v2) (r := .int .i64 (sendE s)) (e := .returned (.int .i64 0)) h k1 hg (by rw [e1]; exact hr) hb (by rw [e1]; simp; omega) (by rw [e1]) (by rw [e2]))
    have KB := Lib.hid (fun W w2 => Bag.cells_then (W := W) (w2 := w2) h)
    have HR := Lib.hid h.row
    have HL := Lib.hid hlt
    obtain ⟨i0, hi, hz0, hz1, hz2⟩ := info_parts encP.info
    have HI := Lib.hid (And.intro hi (And.intro hz0 (And.intro hz1 hz2)))
    clear h hn hlt e1 e2 hi hz0 hz1 hz2
    unfold agg enc
    go_enter Try.func13, Try.ntmps13
    go_wp2_with fail
    obtain ⟨W, hW⟩ : ∃ W, w.alloc (.cells #[.int .i64 f.fr, .int .i64 f.to, .string f.s, .bool f.h] 36) = W := ⟨_, rfl⟩
    have hk : Kept w W := by rw [← hW]; exact Kept.one _ _
    have x0 : W.cell? ⟨w.heap.size, 0, none⟩ = some (.int .i64 f.fr) := by rw [← hW, World.cell?_alloc_new]; rfl
    have x1 : W.cell? ⟨w.heap.size, 1, none⟩ = some (.int .i64 f.to) := by rw [← hW, World.cell?_alloc_new]; rfl
    have x2 : W.cell? ⟨w.heap.size, 2, none⟩ = some (.string f.s) := by rw [← hW, World.cell?_alloc_new]; rfl
    have x3 : W.cell? ⟨w.heap.size, 3, none⟩ = some (.bool f.h) := by rw [← hW, World.cell?_alloc_new]; rfl
    have c0' : W.cell? ⟨B, 0, none⟩ = some v := (Below.cell hk (p := ⟨B, 0, none⟩) hB).trans c0
    have hrow : RowV W v 36 4 enc s.L := HR.out.keep hk
    have HK := Lib.hid hk
    have hwW : w.heap.size < W.heap.size := by rw [← hW]; simp
    have hBW : B < W.heap.size := by omega
    rw [hW]
    clear hW hk c0 c1 f1
    go_region_law (first | (refine step_append_lies _ rfl (.tmp 24) (.tmp 26) 47 rfl 0 36 i0 (.agg zs.toArray) 4 40 encP.us HI.out.1 HI.out.2.1 HI.out.2.2.1 HI.out.2.2.2 rfl (by decide) _ _ _ (by simp [Act.eval]) (World.ownsRow.alloc hrow _) ⟨W.heap.size, 0, none⟩ 1 1 (enc f) (by simp [Act.eval]) rfl (cell_new W _ f) (encP.one f) (by omega) (by unfold maxLen; have := HL.out; omega) (by have := HL.out; omega) (by simp) _ rfl ?_; intro g2 cap2 w2 hown2 hgrow2 hlie2 _; obtain ⟨k2, f2⟩ := KB.out _ w2 (HK.out.more _).drew hgrow2))
    all_goals go_wp2_with fail
    all_goals go_ret
    all_goals first | exact FIN.out _ _ _ (HK.out.more _).drew hgrow2 (row_snoc hown2) (lies_or hlie2) | exact (FIN.out _ _ _ (HK.out.more _).drew hgrow2 (row_snoc hown2) (lies_or hlie2)).more (Kept.refl _).drew
  · obtain ⟨e1, e2⟩ := send_full (f := f) hlt
    have hn' : ¬ n < 256 := by omega
    have FIN := Lib.hid (fun W k1 => Bag.losing (W := W) (r := .int .i64 6) (e := .returned (.int .i64 6)) h k1 rfl)
    rw [e1, e2]
    clear h hn hlt e1 e2
    unfold agg enc
    go_enter Try.func13, Try.ntmps13
    go_wp2_with fail
    go_ret
    exact (FIN.out _ (Kept.refl _)).more (Kept.one _ _)
set_option maxHeartbeats 1600000 in
theorem rsend_any (h : Bag 28 30 w B v s) (hlost : s.lost ≤ 1000000) (f : Fl) : Calls Try.prog 17 #[PB B, agg f] w (Turns 28 30 w B v (sendS s f) (.int .i64 (sendE s))) := by
  have c0 := h.c0
  have c1 := h.c1
  have f1 := blk_free h.blk 1
  have hB := blk_lt h.blk
  have hl := fun ty u => h.row.len encR.us ty u
  obtain ⟨n, hn⟩ : ∃ n : Int, (s.L.length : Int) = n := ⟨_, rfl⟩
  rw [hn] at hl
  by_cases hlt : s.L.length < 256
  · obtain ⟨e1, e2⟩ := send_room (f := f) hlt
    have hn' : n < 256 := by omega
    have FIN := Lib.hid (fun W w2 v2 k1 hg hr hb => Bag.other (s' := sendS s f) (W := W) (w2 := w2) (v2 := v2) (r := .int .i64 (sendE s)) (e := .returned (.int .i64 0)) h k1 hg (by rw [e1]; exact hr) hb (by rw [e1]; simp; omega) (by rw [e1]) (by rw [e2]))
    have KB := Lib.hid (fun W w2 => Bag.cells_then (W := W) (w2 := w2) h)
    have HR := Lib.hid h.row
    have HL := Lib.hid hlt
    obtain ⟨i0, hi, hz0, hz1, hz2⟩ := info_parts encR.info
    have HI := Lib.hid (And.intro hi (And.intro hz0 (And.intro hz1 hz2)))
    clear h hn hlt e1 e2 hi hz0 hz1 hz2
    unfold agg enc
    go_enter Try.func17, Try.ntmps17
    go_wp2_with fail
    obtain ⟨W, hW⟩ : ∃ W, w.alloc (.cells #[.int .i64 f.fr, .int .i64 f.to, .string f.s, .bool f.h] 30) = W := ⟨_, rfl⟩
    have hk : Kept w W := by rw [← hW]; exact Kept.one _ _
    have x0 : W.cell? ⟨w.heap.size, 0, none⟩ = some (.int .i64 f.fr) := by rw [← hW, World.cell?_alloc_new]; rfl
    have x1 : W.cell? ⟨w.heap.size, 1, none⟩ = some (.int .i64 f.to) := by rw [← hW, World.cell?_alloc_new]; rfl
    have x2 : W.cell? ⟨w.heap.size, 2, none⟩ = some (.string f.s) := by rw [← hW, World.cell?_alloc_new]; rfl
    have x3 : W.cell? ⟨w.heap.size, 3, none⟩ = some (.bool f.h) := by rw [← hW, World.cell?_alloc_new]; rfl
    have c0' : W.cell? ⟨B, 0, none⟩ = some v := (Below.cell hk (p := ⟨B, 0, none⟩) hB).trans c0
    have hrow : RowV W v 30 4 enc s.L := HR.out.keep hk
    have HK := Lib.hid hk
    have hwW : w.heap.size < W.heap.size := by rw [← hW]; simp
    have hBW : B < W.heap.size := by omega
    rw [hW]
    clear hW hk c0 c1 f1
    go_region_law (first | (refine step_append_lies _ rfl (.tmp 22) (.tmp 24) 26 rfl 0 30 i0 (.agg zs.toArray) 4 40 encR.us HI.out.1 HI.out.2.1 HI.out.2.2.1 HI.out.2.2.2 rfl (by decide) _ _ _ (by simp [Act.eval]) (World.ownsRow.alloc hrow _) ⟨W.heap.size, 0, none⟩ 1 1 (enc f) (by simp [Act.eval]) rfl (cell_new W _ f) (encR.one f) (by omega) (by unfold maxLen; have := HL.out; omega) (by have := HL.out; omega) (by simp) _ rfl ?_; intro g2 cap2 w2 hown2 hgrow2 hlie2 _; obtain ⟨k2, f2⟩ := KB.out _ w2 (HK.out.more _).drew hgrow2))
    all_goals go_wp2_with fail
    all_goals go_ret
    all_goals first | exact FIN.out _ _ _ (HK.out.more _).drew hgrow2 (row_snoc hown2) (lies_or hlie2) | exact (FIN.out _ _ _ (HK.out.more _).drew hgrow2 (row_snoc hown2) (lies_or hlie2)).more (Kept.refl _).drew
  · obtain ⟨e1, e2⟩ := send_full (f := f) hlt
    have hn' : ¬ n < 256 := by omega
    have FIN := Lib.hid (fun W k1 => Bag.losing (W := W) (r := .int .i64 6) (e := .returned (.int .i64 6)) h k1 rfl)
    rw [e1, e2]
    clear h hn hlt e1 e2
    unfold agg enc
    go_enter Try.func17, Try.ntmps17
    go_wp2_with fail
    go_ret
    exact (FIN.out _ (Kept.refl _)).more (Kept.one _ _)
end

end Go.Proofs.Ytglgkgpmfeamnaa.Bg
