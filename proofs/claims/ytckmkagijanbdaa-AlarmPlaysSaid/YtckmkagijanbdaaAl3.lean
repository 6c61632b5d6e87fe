/- Contracts of package alarm: Clear. -/
import Derived.Test.YtckmkagijanbdaaAl2
import Derived.StillTailTactics
namespace Go.Proofs.Ytckmkagijanbdaa.Al
open Go.RowKit Go.Sort Tk Wh IdM
open St (Kept blk_cell blk_free blk_lt blk_set)
set_option linter.unusedVariables false

theorem whl_handles {w : World} {S : Nat → Prop} {B : Nat} {now last : Int} {L : List (Int × Int)} (h : Whl w S B now last L) : (L.map Prod.snd).Nodup ∧ ∀ t x, (t, x) ∈ L → 1 ≤ x ∧ x ≤ last ∧ inR x ∧ tim x L = some t := by
  obtain ⟨M, sv, ls, T, h1, I, E, l0, l1, _⟩ := h
  refine ⟨E.handles_nodup, fun t x hm => ?_⟩
  obtain ⟨u, hu, hut⟩ := (E.mem t x).1 hm
  obtain ⟨n1, n2, _⟩ := I.nums x u hu
  exact ⟨n1, n2, inR_of (by omega) (by omega), by rw [E.tim, hu, ← hut]; rfl⟩
theorem drew_alloc (w : World) (o : Obj) : (w.alloc o).drew = w.drew.alloc o := rfl

section
variable {w w' : World} {S : Nat → Prop} {B : Nat} {g now last : Int} {A : List (Nm × Int)} {n i s a k : Int}

/-- what Clear does -/
def clears (w : World) (S : Nat → Prop) (B : Nat) (g now last : Int) (A : List (Nm × Int)) (x : Nm) : Ending → World → Prop := fun e w' =>
  e = .returned (.bool (timA x A).isSome) ∧ Aent w S B g now last (drop x A) w'

set_option maxHeartbeats 800000 in
set_option maxRecDepth 100000 in
theorem clear_none (h : Alm w S B g now last A) (hx : okN ⟨n, i, s, a, k⟩) (ht : timA ⟨n, i, s, a, k⟩ A = none) :
    Calls Try.prog 23 #[.pointer (some ⟨B, 0, none⟩), .agg #[.int .i64 n, .int .i64 i, .int .i64 s, .int .i64 a, .int .i64 k]] w (clears w S B g now last A ⟨n, i, s, a, k⟩) := by
  have FIN := Lib.hid (show ∀ w', Kept w w' → clears w S B g now last A ⟨n, i, s, a, k⟩ (.returned (.bool false)) w' from fun w' hk => ⟨by rw [ht]; rfl, by rw [drop_none ht]; exact h.same hk⟩)
  obtain ⟨Bw, MA, MN, Sw, L, TA, TN, h0, R, g1, g2⟩ := h
  have hTA : TA ⟨n, i, s, a, k⟩ = none := by
    have := R.time ⟨n, i, s, a, k⟩
    rw [ht] at this
    cases e : TA ⟨n, i, s, a, k⟩ with
    | none => rfl
    | some p => rw [e] at this; cases this
  obtain ⟨W, hW⟩ : ∃ W, w.alloc (.cells #[.int .i64 n, .int .i64 i, .int .i64 s, .int .i64 a, .int .i64 k] 42) = W := ⟨_, rfl⟩
  have k1 : Kept w W := by rw [← hW]; exact Kept.one _ _
  have h1 := h0.kept k1
  have C := Lib.hid (amade_any h1)
  have c3 := h1.c3
  have hl : ∀ W', W'.heap[MA]? = W.heap[MA]? → (Instr.lookup 60 (.map (some MA)) (.agg #[.int .i64 n, .int .i64 i, .int .i64 s, .int .i64 a, .int .i64 k]) true).run Try.prog W' = .ok (.tuple #[.agg #[.int .i64 0, .int .i64 0], .bool false]) W' := fun W' hk => by
    have := (h1.ma.kept hk).look_ok Try.underlying60 (zero_al W') (x := ⟨n, i, s, a, k⟩) hx
    unfold tA at this
    rw [hTA] at this
    exact this
  have hl2 := hl W.drew rfl
  have hl3 := hl (W.alloc (.cells #[.int .i64 0, .int .i64 0] 81)).drew (Below.heap_alloc _ _ _ h1.ma.lt)
  have hlt : w.heap.size < W.heap.size := by rw [← hW]; simp
  have hB := h1.ltB
  have b0 : ∀ o, W.cell? ⟨w.heap.size, o, none⟩ = (#[.int .i64 n, .int .i64 i, .int .i64 s, .int .i64 a, .int .i64 k] : Array Value)[o]? := fun o => by rw [← hW]; exact blk_cell (St.blk_new _ _) o
  have x0 := b0 0
  have x1 := b0 1
  have x2 := b0 2
  have x3 := b0 3
  have x4 := b0 4
  simp at x0 x1 x2 x3 x4
  have HW := Lib.hid hW
  have HK := Lib.hid k1
  clear h0 h1 hl b0 k1 hW hx ht hTA R
  go_enter Try.func23, Try.ntmps23
  go_wp2_with fail
  rw [HW.out]
  go_wp2_with (go_at_call 30; refine C.out.mono ?_; rintro e w' ⟨rfl, rfl⟩)
  go_region
  all_goals
    go_wp2_with fail
    go_ret
    exact FIN.out _ (by first | exact HK.out.drew.more _ | exact (HK.out.more _).drew)

set_option maxHeartbeats 1600000 in
set_option maxRecDepth 100000 in
theorem clear_some (h : Alm w S B g now last A) (hx : okN ⟨n, i, s, a, k⟩) {c : Int} (ht : timA ⟨n, i, s, a, k⟩ A = some c) :
    Calls Try.prog 23 #[.pointer (some ⟨B, 0, none⟩), .agg #[.int .i64 n, .int .i64 i, .int .i64 s, .int .i64 a, .int .i64 k]] w (clears w S B g now last A ⟨n, i, s, a, k⟩) := by
  have FIN := Lib.hid (show ∀ w', Aent w S B g now last (drop ⟨n, i, s, a, k⟩ A) w' → clears w S B g now last A ⟨n, i, s, a, k⟩ (.returned (.bool true)) w' from fun w' hk => ⟨by rw [ht]; rfl, hk⟩)
  obtain ⟨Bw, MA, MN, Sw, L, TA, TN, h0, R, g1, g2⟩ := h
  obtain ⟨hd, hTA⟩ : ∃ hd, TA ⟨n, i, s, a, k⟩ = some (c, hd) := (R.ta _ _).1 ((tim_some R.ord).1 ht)
  obtain ⟨hn, hnum⟩ := whl_handles h0.whl
  have hmem := R.wheel hTA
  obtain ⟨_, _, hr, htim⟩ := hnum _ _ hmem
  have hTN := R.name hTA
  have R' := R.del hn hTA
  obtain ⟨W, hW⟩ : ∃ W, w.alloc (.cells #[.int .i64 n, .int .i64 i, .int .i64 s, .int .i64 a, .int .i64 k] 42) = W := ⟨_, rfl⟩
  have k1 : Kept w W := by rw [← hW]; exact Kept.one _ _
  have h1 := h0.kept k1
  have C := Lib.hid (amade_any h1)
  have c3 := h1.c3
  have hl : ∀ W', W'.heap[MA]? = W.heap[MA]? → (Instr.lookup 60 (.map (some MA)) (.agg #[.int .i64 n, .int .i64 i, .int .i64 s, .int .i64 a, .int .i64 k]) true).run Try.prog W' = .ok (.tuple #[.agg #[.int .i64 c, .int .i64 hd], .bool true]) W' := fun W' hk => by
    have := (h1.ma.kept hk).look_ok Try.underlying60 (zero_al W') (x := ⟨n, i, s, a, k⟩) hx
    unfold tA at this
    rw [hTA] at this
    exact this
  have hl2 := hl W.drew rfl
  have hl3 := hl (W.alloc (.cells #[.int .i64 0, .int .i64 0] 81)).drew (Below.heap_alloc _ _ _ h1.ma.lt)
  have hlt : w.heap.size < W.heap.size := by rw [← hW]; simp
  have hB := h1.ltB
  have b0 : ∀ o, W.cell? ⟨w.heap.size, o, none⟩ = (#[.int .i64 n, .int .i64 i, .int .i64 s, .int .i64 a, .int .i64 k] : Array Value)[o]? := fun o => by rw [← hW]; exact blk_cell (St.blk_new _ _) o
  have x0 := b0 0
  have x1 := b0 1
  have x2 := b0 2
  have x3 := b0 3
  have x4 := b0 4
  simp at x0 x1 x2 x3 x4
  have hboxed : W.heap[w.heap.size]? = some (.cells #[.int .i64 n, .int .i64 i, .int .i64 s, .int .i64 a, .int .i64 k] 42 (0, 0)) := by rw [← hW]; exact St.blk_new _ _
  have HBX := Lib.hid hboxed
  have HW := Lib.hid hW
  have HK := Lib.hid k1
  have H0 := Lib.hid h0
  have H1 := Lib.hid h1
  have HR := Lib.hid R'
  have HT := Lib.hid htim
  have HTN := Lib.hid hTN
  have HTA := Lib.hid hTA
  have HLen := Lib.hid R.len
  have HD := Lib.hid (drop_len R.ord ht)
  have HM := Lib.hid hmem
  have HX := Lib.hid hx
  clear h0 h1 hl b0 k1 hW hx ht hTA R R' hTN htim hmem hn hnum hboxed
  go_enter Try.func23, Try.ntmps23
  go_wp2_with fail
  rw [HW.out]
  go_wp2_with (go_at_call 30; refine C.out.mono ?_; rintro e w' ⟨rfl, rfl⟩)
  go_region
  all_goals
    try rw [drew_alloc]
    obtain ⟨W2, hW2⟩ : ∃ W2, W.drew.alloc (.cells #[.int .i64 c, .int .i64 hd] 81) = W2 := ⟨_, rfl⟩
    rw [hW2]
    have k2 : Kept W W2 := by rw [← hW2]; exact (Kept.refl W).drew.more _
    have h2 := H1.out.kept k2
    have d2 := h2.c2
    have b2 : W2.heap[W.heap.size]? = some (.cells #[.int .i64 c, .int .i64 hd] 81 (0, 0)) := by rw [← hW2]; exact St.blk_new W.drew _
    have e1 : W2.cell? ⟨W.heap.size, 1, none⟩ = some (.int .i64 hd) := by rw [blk_cell b2]; rfl
    have CC := (cancel_some (w := W2.drew) (h2.whl.kept (Kept.refl _).drew) hr HT.out).mono (fun e w3 (hp : cancels _ _ _ _ _ _ _ e w3) => show e = .returned (.bool true) ∧ Adid W2 S B Bw MA MN g now last (Wh.del hd L) TA L.length TN L.length w3 ∧ Fr Sw W2 w3 from ⟨by have := hp.1; rw [HT.out] at this; exact this, by
      obtain ⟨Sw', q1, q2, q3⟩ := hp.2
      have q3' : Fr Sw W2 w3 := ((Fr.refl Sw W2).drew).trans q3 (fun i c => Or.inl c)
      exact ⟨⟨_, _, h2.wheel q1 q2 q3', fun j c => c.elim Or.inl (fun c => (q2 j c).imp (h2.sub j) id), q3'.mono (fun j c => Or.inl (h2.sub j c))⟩, q3'⟩⟩)
    have CC := Lib.hid CC
    have K2 := Lib.hid k2
    have B2 := Lib.hid b2
    have H2 := Lib.hid h2
    have hsw : ∀ j, j = w.heap.size ∨ j = W.heap.size → ¬ Sw j := fun j e c => by
      have := H0.out.sLt j (H0.out.sub j c)
      have := HK.out.size
      omega
    have HSW := Lib.hid hsw
    clear hW2 k2 h2 b2 c3 hl2 hl3 x0 x1 x2 x3 x4 hB C hsw
    go_wp2_with fail
    refine wp_region_still_tail 6 (by kernel_rfl) (by kernel_rfl) ?_
    change wpStill _ _ (World.drew _) (fun a' => wpList _ _ _ _ a' (World.drew _)) _ _
    simp only [List.take_succ_cons, List.take_zero, List.drop_succ_cons, List.drop_zero]
    repeat still_step
    refine wpStill_nil ?_
    go_wp2_with fail
    refine CC.out.mono ?_
    rintro e w3 ⟨rfl, ⟨S3, Sw3, h3, s3, f3⟩, f4⟩
    have hz2 : W.heap.size < W2.heap.size := blk_lt B2.out
    have b3 : w3.heap[w.heap.size]? = some (.cells #[.int .i64 n, .int .i64 i, .int .i64 s, .int .i64 a, .int .i64 k] 42 (0, 0)) :=
      (f4.block _ (by omega) (HSW.out _ (Or.inl rfl))).trans ((K2.out.block _ (by omega)).trans HBX.out)
    have b4 : w3.heap[W.heap.size]? = some (.cells #[.int .i64 c, .int .i64 hd] 81 (0, 0)) := (f4.block _ hz2 (HSW.out _ (Or.inr rfl))).trans B2.out
    have y0 : w3.cell? ⟨w.heap.size, 0, none⟩ = some (.int .i64 n) := by rw [blk_cell b3]; rfl
    have y1 : w3.cell? ⟨w.heap.size, 1, none⟩ = some (.int .i64 i) := by rw [blk_cell b3]; rfl
    have y2 : w3.cell? ⟨w.heap.size, 2, none⟩ = some (.int .i64 s) := by rw [blk_cell b3]; rfl
    have y3 : w3.cell? ⟨w.heap.size, 3, none⟩ = some (.int .i64 a) := by rw [blk_cell b3]; rfl
    have y4 : w3.cell? ⟨w.heap.size, 4, none⟩ = some (.int .i64 k) := by rw [blk_cell b3]; rfl
    have y5 : w3.cell? ⟨W.heap.size, 1, none⟩ = some (.int .i64 hd) := by rw [blk_cell b4]; rfl
    have CF := Lib.hid ((forget_is h3 HX.out hr (by rw [HTA.out]; rfl) (by rw [HTN.out]; rfl)).mono (fun e w4 hp => show e = .returned (.tuple #[]) ∧ Aent w S B g now last (drop ⟨n, i, s, a, k⟩ A) w4 from ⟨hp.1, by
      obtain ⟨S4, Sw4, h4, s4, f5⟩ := hp.2
      have hl4 : (Wh.del hd L).length = L.length - 1 := by have := HR.out.len; have := HD.out; have := HLen.out; omega
      refine ⟨S4, ⟨Bw, MA, MN, Sw4, _, _, _, by rw [hl4]; exact h4, HR.out, g1, g2⟩, fun j c => ?_, ?_⟩
      · rcases s4 j c with c | c
        · rcases s3 j c with c | c
          · exact Or.inl c
          · exact Or.inr (by have := HK.out.size; have := K2.out.size; omega)
        · exact Or.inr (by have := HK.out.size; have := K2.out.size; have := f3.size; omega)
      · exact (((Fr.kept (S := S) HK.out).then_kept K2.out).trans f3 (fun j c => Or.inl c)).trans f5 (fun j c => (s3 j c).imp id (fun c => by have := HK.out.size; have := K2.out.size; omega))⟩))
    clear CC h3 s3 f3 f4 b3 b4 e1 d2 hz2
    go_wp2_with fail
    refine CF.out.mono ?_
    rintro e w4 ⟨rfl, hA⟩
    have HA := Lib.hid hA
    clear hA
    go_wp2_with fail
    go_ret
    exact FIN.out _ HA.out

theorem clear_any (h : Alm w S B g now last A) (hx : okN ⟨n, i, s, a, k⟩) :
    Calls Try.prog 23 #[.pointer (some ⟨B, 0, none⟩), .agg #[.int .i64 n, .int .i64 i, .int .i64 s, .int .i64 a, .int .i64 k]] w (clears w S B g now last A ⟨n, i, s, a, k⟩) := by
  cases ht : timA ⟨n, i, s, a, k⟩ A with
  | none => exact clear_none h hx ht
  | some c => exact clear_some h hx ht
end

end Go.Proofs.Ytckmkagijanbdaa.Al
