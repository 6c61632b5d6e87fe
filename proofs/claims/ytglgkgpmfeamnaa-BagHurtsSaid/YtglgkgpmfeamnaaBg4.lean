/- Taking a flight off, in both bags; doubling one. -/
import Derived.Test.YtglgkgpmfeamnaaBg3
namespace Go.Proofs.Ytglgkgpmfeamnaa.Bg
open Go.RowKit Go.Sort Rv
open St (Kept blk_cell blk_free blk_lt blk_set)
open Wh (Fr Mine)
set_option linter.unusedVariables false

/-- what is left -/
def outs (w : World) (g cap i : Nat) (L : List Fl) : Ending → World → Prop := fun e w' => e = .returned (.slice (some ⟨g, 0, none⟩) (L.length - 1) cap) ∧ RowV w' (.slice (some ⟨g, 0, none⟩) (L.length - 1) cap) 36 4 enc (L.eraseIdx i) ∧ Fr (fun j => j = g) w w'
theorem zero_flight (w : World) : (zeroValue 36).run Try.prog w = .ok (.agg zs.toArray) w := by
  obtain ⟨i0, hi, hz0, hz1, hz2⟩ := info_parts encP.info
  simp [zeroValue, typeInfo, hi, hz0]

set_option maxHeartbeats 1600000 in
theorem without_any {w : World} {g cap i : Nat} {L : List Fl} (h : RowV w (.slice (some ⟨g, 0, none⟩) L.length cap) 36 4 enc L) (hi : i < L.length) :
    Calls Try.prog 22 #[.slice (some ⟨g, 0, none⟩) L.length cap, .int .i64 (i : Int)] w (outs w g cap i L) := by
  obtain ⟨_, _, _, e, _, hcap, hcm, _⟩ := h.full (fun c => by subst c; simp at hi)
  cases e
  unfold maxLen at hcm
  have hd := h.keep (Kept.refl w).drew
  obtain ⟨ad1, hs1, ha1⟩ := cut_from encP g L.length cap i (i : Int) rfl (by omega)
  obtain ⟨ad2, hs2, ha2⟩ := cut_from encP g L.length cap (i + 1) ((i : Int) + 1) (by omega) (by omega)
  obtain rfl := ha1 (by omega)
  obtain ⟨w2, hcp, hr2, hf2⟩ := run_copy_out encP 0 (c1 := cap - i) (c2 := cap - (i + 1)) hi hd (fun c => ha2 (by omega))
  have hel : (L.eraseIdx i).length = L.length - 1 := by rw [List.length_eraseIdx, if_pos hi]
  obtain ⟨w3, hcl, hr3, hf3⟩ := run_clear_last (w := w2) encP zero_flight 0 (g := g) (cap := cap) (c := cap - (L.length - 1)) (L := L.eraseIdx i) (by
    have hr2' := hr2.2
    rw [hel] at hr2'
    rcases hr2' with ⟨e, _⟩ | ⟨g', cap', cur, e, _, q1, q2, q3, q4, q5⟩
    · cases e
    · cases e; rw [hel]; exact ⟨cur, q1, by omega, q3, q4, q5⟩)
  rw [hel] at hcl hr3
  obtain ⟨c, hc⟩ : ∃ c : Int, ((L.length - (i + 1) : Nat) : Int) = c := ⟨_, rfl⟩
  rw [hc] at hcp
  have hsum : (i : Int) + c = ((L.length - 1 : Nat) : Int) := by omega
  obtain ⟨ad3, hs3, ha3⟩ := cut_from encP g L.length cap (L.length - 1) ((i : Int) + c) hsum (by omega)
  obtain rfl := ha3 (by omega)
  rw [show L.length - (L.length - 1) = 1 by omega] at hs3
  have hs4 := cut_to encP g L.length cap (L.length - 1) ((i : Int) + c) hsum (by omega)
  have hcp' : ∀ ty, (Builtin.copy_ #[47, 47] ty #[.slice (some ⟨g, i * 4, none⟩) (L.length - i) (cap - i), .slice (some ad2) (L.length - (i + 1)) (cap - (i + 1))]).run Try.prog w.drew = .ok (.int .i64 c) w2 := fun ty => hcp
  have hcl' : ∀ ty, (Builtin.clear_ #[47] ty #[.slice (some ⟨g, (L.length - 1) * 4, none⟩) 1 (cap - (L.length - 1))]).run Try.prog w2 = .ok (.tuple #[]) w3 := fun ty => hcl
  have hc0 : 0 ≤ c := by omega
  have hc1 : (i : Int) + c ≤ 9223372036854775807 := by omega
  have hi0 : (i : Int) + 1 ≤ 9223372036854775807 := by omega
  have FIN := Lib.hid (And.intro hr3 ((((Fr.refl (fun j => j = g) w).drew).trans hf2 (fun _ c => .inl c)).trans hf3 (fun _ c => .inl c)))
  have hw1 : IntKind.i64.wrap ((i : Int) + 1) = (i : Int) + 1 := IntWalk.i64_in _ (by omega)
  have hw2 : IntKind.i64.wrap ((i : Int) + c) = (i : Int) + c := IntWalk.i64_in _ (by omega)
  clear hcp hcl hr2 hf2 hr3 hf3 hsum hc hel h hd hcap hcm hi ha1 ha2 ha3
  go_enter Try.func22, Try.ntmps22
  go_wp2_with fail
  go_region
  all_goals go_wp2_with fail
  all_goals go_ret
  all_goals exact ⟨rfl, FIN.out⟩

theorem fr_grown {g : Nat} {v : Value} {W w2 : World} (hv : v.ownBlock = some g) (f : Fr (fun j => j = g) W w2) : W.grownBy w2 v.ownBlock :=
  ⟨f.os, f.tape, f.output, f.size, fun k hk hn => f.block k hk (fun c => hn (by rw [hv, c]))⟩
theorem take_yes {s : Sta} {i : Nat} {f : Fl} (h : s.L[i]? = some f) : takeF s (i : Int) = f ∧ takeS s (i : Int) = ⟨s.L.eraseIdx i, s.lost⟩ ∧ lookE s (i : Int) = 0 := by
  obtain ⟨h1, h2, h3, h4⟩ := look_yes h
  exact ⟨h3, by unfold takeS; rw [if_pos h1, Int.toNat_natCast], h4⟩
theorem take_no {s : Sta} {k : Int} (h : ¬ has s k) : takeF s k = z ∧ takeS s k = s ∧ lookE s k = 7 := ⟨if_neg h, if_neg h, if_neg h⟩

/-- a flight's box: its cells -/
structure Box (w : World) (b : Nat) (t : TypeId) (f : Fl) : Prop where
  blk : w.heap[b]? = some (.cells (enc f).toArray t (0, 0))
theorem Box.cells {w : World} {b : Nat} {t : TypeId} {f : Fl} (h : Box w b t f) : w.cell? ⟨b, 0, none⟩ = some (.int .i64 f.fr) ∧ w.cell? ⟨b, 1, none⟩ = some (.int .i64 f.to) ∧ w.cell? ⟨b, 2, none⟩ = some (.string f.s) ∧ w.cell? ⟨b, 3, none⟩ = some (.bool f.h) ∧ (∀ o, w.frozen? ⟨b, o, none⟩ = false) ∧ b < w.heap.size :=
  ⟨by rw [blk_cell h.blk]; rfl, by rw [blk_cell h.blk]; rfl, by rw [blk_cell h.blk]; rfl, by rw [blk_cell h.blk]; rfl, blk_free h.blk, blk_lt h.blk⟩
theorem Box.new (w : World) (t : TypeId) (f : Fl) : Box (w.alloc (.cells #[.int .i64 f.fr, .int .i64 f.to, .string f.s, .bool f.h] t)) w.heap.size t f := ⟨St.blk_new _ _⟩
theorem Box.newz (w : World) (t : TypeId) : Box (w.alloc (.cells #[.int .i64 0, .int .i64 0, .string ⟨#[]⟩, .bool false] t)) w.heap.size t z := ⟨St.blk_new _ _⟩
theorem Box.kept {w w' : World} {b : Nat} {t : TypeId} {f : Fl} (h : Box w b t f) (k : Kept w w') : Box w' b t f := ⟨(k.block b (blk_lt h.blk)).trans h.blk⟩
theorem Box.fr {S : Nat → Prop} {w w' : World} {b : Nat} {t : TypeId} {f : Fl} (h : Box w b t f) (k : Fr S w w') (hn : ¬ S b) : Box w' b t f := ⟨(k.block b (blk_lt h.blk) hn).trans h.blk⟩
theorem kept_set {w wr : World} (h : Kept w wr) {k : Nat} (hk : w.heap.size ≤ k) (o : Nat) (u : Value) : Kept w (wr.setCell ⟨k, o, none⟩ u) :=
  ((Fr.kept (S := fun j => j = k) h).setCell (p := ⟨k, o, none⟩) (.inl rfl) u).keeps (fun j e => by subst e; exact hk)
theorem fr_sets {w : World} {b : Nat} (x0 x1 x2 x3 : Value) : Fr (fun j => j = b) w ((((w.setCell ⟨b, 0, none⟩ x0).setCell ⟨b, 1, none⟩ x1).setCell ⟨b, 2, none⟩ x2).setCell ⟨b, 3, none⟩ x3) :=
  ((((Fr.refl (fun j => j = b) w).setCell (p := ⟨b, 0, none⟩) (.inl rfl) x0).setCell (p := ⟨b, 1, none⟩) (.inl rfl) x1).setCell (p := ⟨b, 2, none⟩) (.inl rfl) x2).setCell (p := ⟨b, 3, none⟩) (.inl rfl) x3
theorem Box.sets {w : World} {b : Nat} {t : TypeId} {f0 : Fl} (h : Box w b t f0) (f : Fl) : Box ((((w.setCell ⟨b, 0, none⟩ (.int .i64 f.fr)).setCell ⟨b, 1, none⟩ (.int .i64 f.to)).setCell ⟨b, 2, none⟩ (.string f.s)).setCell ⟨b, 3, none⟩ (.bool f.h)) b t f :=
  ⟨blk_set (blk_set (blk_set (blk_set h.blk 0 (.int .i64 f.fr)) 1 (.int .i64 f.to)) 2 (.string f.s)) 3 (.bool f.h)⟩
theorem info_p : (Try.prog.info? 36).map (·.size) = some 4 := by kernel_rfl
theorem info_r : (Try.prog.info? 30).map (·.size) = some 4 := by kernel_rfl
theorem Bag.taken {bt et : TypeId} {w W w2 w3 : World} {B g cap i n : Nat} {s : Sta} {r : Value} {e : Ending} (h : Bag bt et w B (.slice (some ⟨g, 0, none⟩) n cap) s) (hn : n = s.L.length) (hi : i < s.L.length) (k1 : Kept w W) (hr : RowV w2 (.slice (some ⟨g, 0, none⟩) (s.L.length - 1) cap) et 4 enc (s.L.eraseIdx i)) (hf : Fr (fun j => j = g) W w2)
    (F : Fr (fun j => j = w.heap.size) (w2.setCell ⟨B, 0, none⟩ (.slice (some ⟨g, 0, none⟩) (s.L.length - 1) cap)) w3) (he : e = .returned r) : Turns bt et w B (.slice (some ⟨g, 0, none⟩) n cap) ⟨s.L.eraseIdx i, s.lost⟩ r e w3 := by
  have hB := blk_lt h.blk
  have hg := h.row.lt (g := g) rfl
  have hne := h.ne g rfl
  have hz := k1.size
  have hb2 : w2.heap[B]? = some (.cells #[.slice (some ⟨g, 0, none⟩) n cap, .int .i64 (s.lost : Int)] bt (0, 0)) := (hf.block B (by omega) (fun c => hne c.symm)).trans ((k1.block B hB).trans h.blk)
  have hb3 := blk_set hb2 0 (.slice (some ⟨g, 0, none⟩) (s.L.length - 1) cap)
  have hel : (s.L.eraseIdx i).length = s.L.length - 1 := by rw [List.length_eraseIdx, if_pos hi]
  have b3 : Bag bt et (w2.setCell ⟨B, 0, none⟩ (.slice (some ⟨g, 0, none⟩) (s.L.length - 1) cap)) B (.slice (some ⟨g, 0, none⟩) (s.L.length - 1) cap) ⟨s.L.eraseIdx i, s.lost⟩ :=
    ⟨hb3, hr.kept fun j c => Below.heap_setCell _ _ _ _ (show j ≠ B by simp [Value.ownBlock] at c; omega), fun j c => by simp [Value.ownBlock] at c; omega, by show (s.L.eraseIdx i).length ≤ 256; rw [hel]; have := h.len; omega⟩
  have hown : ∀ k, Own B (.slice (some ⟨g, 0, none⟩) (s.L.length - 1) cap) k → Own B (.slice (some ⟨g, 0, none⟩) n cap) k := fun k c => c
  refine ⟨he, _, b3.fr F (fun k c d => ?_), ?_, fun k c => .inl (hown k c)⟩
  · rcases c with c | c
    · omega
    · simp [Value.ownBlock] at c; omega
  · exact (((Fr.kept (S := Own B (.slice (some ⟨g, 0, none⟩) n cap)) k1).trans hf (fun j c => .inl (.inr (by rw [c]; rfl)))).setCell (.inl (.inl rfl)) _).trans F (fun j c => .inr (by omega))

section
variable {w : World} {B : Nat} {v : Value} {s : Sta}
set_option maxHeartbeats 1600000 in
theorem take_any (h : Bag 49 36 w B v s) (k : Int) : Calls Try.prog 15 #[PB B, .int .i64 k] w (Turns 49 36 w B v (takeS s k) (.tuple #[agg (takeF s k), .int .i64 (lookE s k)])) := by
  have hB := blk_lt h.blk
  by_cases hk : has s k
  · obtain ⟨i, f, rfl, hf, hi⟩ := has_at hk
    obtain ⟨e1, e2, e3⟩ := take_yes hf
    have CL : ∀ W, Kept w W → Calls Try.prog 11 #[PB B, .int .i64 (i : Int)] W fun e w' => e = .returned (.tuple #[agg f, .int .i64 0]) ∧ Kept W w' := fun W k => by
      have := look_any (h.kept k) (i : Int)
      unfold looks at this; rw [e1, e3] at this; exact this
    have CL := Lib.hid CL
    obtain ⟨g, cap, cur, ev, hb, hcap, _⟩ := h.row.full (fun c => by rw [c] at hi; simp at hi)
    subst ev
    have CO := Lib.hid (fun W (k : Kept w W) => without_any (h.row.keep k) hi)
    rw [e1, e2, e3]
    have H := Lib.hid h
    have HI := Lib.hid hi
    clear h hf e1 e2 e3 hi hk hb hcap
    unfold agg enc at CL ⊢
    go_enter Try.func15, Try.ntmps15
    go_wp2_with (first | (go_at_call 11; refine (CL.out _ (Kept.one _ _)).mono ?_; rintro e w1 ⟨rfl, hk1⟩; have hw1 := hk1.size; simp at hw1; have hK1 : Kept w w1 := (Kept.one _ _).trans hk1; have c1 := (H.out.kept hK1).c0; have hB1 : B < w1.heap.size := (by omega); have BX := Lib.hid ((Box.newz w 36).kept hk1); have HK1 := Lib.hid hK1; clear hk1 hK1) | (go_at_call 22; refine (CO.out _ (HK1.out.more _)).mono ?_; rintro e w2 ⟨rfl, hr2, hf2⟩; have hw2 := hf2.size; simp at hw2; have hgB := H.out.ne g rfl; have hgl := H.out.row.lt (g := g) rfl; have HW2 := Lib.hid hr2; have HF2 := Lib.hid hf2; have BY := Lib.hid ((Box.new w1 36 f).fr hf2 (by omega)); have BR := Lib.hid ((BX.out.kept (Kept.one _ _)).fr hf2 (by omega)); have HB2 := H.out.blk; have hb2 := (hf2.block B (by simp; omega) (by omega)).trans (((HK1.out.more _).block B (by omega)).trans H.out.blk); have cB : w2.cell? ⟨B, 0, none⟩ = some (.slice (some ⟨g, 0, none⟩) s.L.length cap) := (by rw [blk_cell hb2]; rfl); have fB := blk_free hb2 0; obtain ⟨x0, x1, x2, x3, xf, xl⟩ := BY.out.cells; obtain ⟨y0, y1, y2, y3, yf, yl⟩ := BR.out.cells; have yf0 := yf 0; have yf1 := yf 1; have yf2 := yf 2; have yf3 := yf 3; clear HB2 hb2 hr2 hf2 yf xf))
    have BE : Box (w2.setCell ⟨B, 0, none⟩ (.slice (some ⟨g, 0, none⟩) (s.L.length - 1) cap)) w.heap.size 36 z := BR.out.fr ((Fr.refl (fun j => j = B) w2).setCell (p := ⟨B, 0, none⟩) (.inl rfl) _) (by omega)
    refine bodyPost_ret (Rw.results_row_tmp rfl _ _ w.heap.size 36 _ (0, 0) _ rfl (BE.sets f).blk Try.underlying36 rfl info_p) rfl ?_
    exact Bag.taken H.out rfl HI.out (HK1.out.more _) HW2.out HF2.out (fr_sets _ _ _ _) rfl
  · obtain ⟨e1, e2, e3⟩ := take_no hk
    have CL : ∀ W, Kept w W → Calls Try.prog 11 #[PB B, .int .i64 k] W fun e w' => e = .returned (.tuple #[agg z, .int .i64 7]) ∧ Kept W w' := fun W k' => by
      have := look_any (h.kept k') k
      unfold looks at this; rw [e1, e3] at this; exact this
    have CL := Lib.hid CL
    have H := Lib.hid h
    rw [e1, e2, e3]
    clear h hk e1 e2 e3
    unfold agg enc z at CL ⊢
    go_enter Try.func15, Try.ntmps15
    go_wp2_with (go_at_call 11; refine (CL.out _ (Kept.one _ _)).mono ?_; rintro e w1 ⟨rfl, hk1⟩; have hw1 := hk1.size; simp at hw1; obtain ⟨y0, y1, y2, y3, yf, yl⟩ := ((Box.newz w 36).kept hk1).cells; have yf0 := yf 0; have yf1 := yf 1; have yf2 := yf 2; have yf3 := yf 3; have BX := Lib.hid ((Box.newz w 36).kept hk1); have HK1 := Lib.hid ((Kept.one w _).trans hk1); clear hk1 yf; unfold z at y0 y1 y2 y3)
    have BX2 := (BX.out.sets z).kept (Kept.one _ (.cells #[.int .i64 0, .int .i64 0, .string ⟨#[]⟩, .bool false] 36))
    refine bodyPost_ret (Rw.results_row_tmp rfl _ _ w.heap.size 36 _ (0, 0) _ rfl BX2.blk Try.underlying36 rfl info_p) rfl ?_
    exact Turns.none H.out ((((Fr.kept (S := fun j => j = w.heap.size) HK1.out).trans (fr_sets _ _ _ _) (fun j c => .inl c)).keeps (fun j c => by omega)).more _) rfl

theorem twice_yes {s : Sta} {i : Nat} {f : Fl} (h : s.L[i]? = some f) : twiceS s (i : Int) = sendS s f ∧ twiceE s (i : Int) = sendE s := by
  obtain ⟨h1, h2, h3, h4⟩ := look_yes h
  exact ⟨by unfold twiceS; rw [if_pos h1, h2], by unfold twiceE; rw [if_pos h1]⟩
theorem twice_no {s : Sta} {k : Int} (h : ¬ has s k) : twiceS s k = s ∧ twiceE s k = 7 := ⟨if_neg h, if_neg h⟩
theorem Turns.from {bt et : TypeId} {W w2 : World} {s' : Sta} {r : Value} {e : Ending} (h : Turns bt et W B v s' r e w2) (k : Kept w W) : Turns bt et w B v s' r e w2 := by
  obtain ⟨h1, v', h2, h3, h4⟩ := h
  exact ⟨h1, v', h2, (Fr.kept k).trans h3 (fun _ c => .inl c), fun j c => (h4 j c).imp id (fun c => by have := k.size; omega)⟩
set_option maxHeartbeats 1600000 in
theorem twice_any (h : Bag 49 36 w B v s) (hlost : s.lost ≤ 1000000) (k : Int) : Calls Try.prog 14 #[PB B, .int .i64 k] w (Turns 49 36 w B v (twiceS s k) (.int .i64 (twiceE s k))) := by
  have H := Lib.hid h
  by_cases hk : has s k
  · obtain ⟨i, f, rfl, hf, hi⟩ := has_at hk
    obtain ⟨_, _, e1, e2⟩ := look_yes hf
    have CL : Calls Try.prog 11 #[PB B, .int .i64 (i : Int)] w fun e w' => e = .returned (.tuple #[agg f, .int .i64 0]) ∧ Kept w w' := by
      have := look_any h (i : Int)
      unfold looks at this; rw [e1, e2] at this; exact this
    have CL := Lib.hid CL
    have CS := Lib.hid (fun W (k : Kept w W) => send_any (h.kept k) hlost f)
    obtain ⟨e3, e4⟩ := twice_yes hf
    rw [e3, e4]
    clear h hf e1 e2 e3 e4 hi hk
    unfold agg enc at CL CS
    go_enter Try.func14, Try.ntmps14
    go_wp2_with (first | (go_at_call 11; refine CL.out.mono ?_; rintro e w1 ⟨rfl, hk1⟩; have HK1 := Lib.hid hk1; clear hk1) | (go_at_call 13; refine (CS.out _ (HK1.out.more _)).mono ?_; rintro e w2 ⟨rfl, ht⟩; have HT := Lib.hid ht; clear ht))
    go_ret
    exact Turns.from ⟨rfl, HT.out⟩ (HK1.out.more _)
  · obtain ⟨e1, e2⟩ := look_no hk
    have CL : Calls Try.prog 11 #[PB B, .int .i64 k] w fun e w' => e = .returned (.tuple #[agg z, .int .i64 7]) ∧ Kept w w' := by
      have := look_any h k
      unfold looks at this; rw [e1, e2] at this; exact this
    have CL := Lib.hid CL
    obtain ⟨e3, e4⟩ := twice_no hk
    rw [e3, e4]
    clear h hk e1 e2 e3 e4
    unfold agg enc z at CL
    go_enter Try.func14, Try.ntmps14
    go_wp2_with (go_at_call 11; refine CL.out.mono ?_; rintro e w1 ⟨rfl, hk1⟩; have HK1 := Lib.hid hk1; clear hk1)
    go_ret
    exact Turns.none H.out (HK1.out.more _) rfl
end

end Go.Proofs.Ytglgkgpmfeamnaa.Bg
