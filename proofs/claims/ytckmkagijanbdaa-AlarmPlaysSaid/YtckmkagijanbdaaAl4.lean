/- Contracts of package alarm: Set. -/
import Derived.Test.YtckmkagijanbdaaAl3
import Derived.Test.YtckmkagijanbdaaTk2
namespace Go.Proofs.Ytckmkagijanbdaa.Al
open Go.RowKit Go.Sort Tk Wh IdM
open St (Kept blk_cell blk_free blk_lt blk_set)
set_option linter.unusedVariables false

section
variable {w w' : World} {S : Nat → Prop} {B : Nat} {g now last : Int} {A : List (Nm × Int)} {n i s a k t : Int}

/-- what Set does: there is room -/
def setsYes (w : World) (S : Nat → Prop) (B : Nat) (g now last : Int) (A : List (Nm × Int)) (x : Nm) (t : Int) : Ending → World → Prop := fun e w' =>
  e = .returned (.int .i64 0) ∧ Aent w S B g now (last + 1) (put x (clamp t) A) w'
/-- what Set does: it is full -/
def setsNo (w : World) (S : Nat → Prop) (B : Nat) (g now last : Int) (A : List (Nm × Int)) : Ending → World → Prop := fun e w' =>
  e = .returned (.int .i64 6) ∧ Aent w S B g now last A w'

/-- an argument's block, and alarms that it is no part of -/
theorem aent_box {w W w1 : World} {o : Obj} (hW : w.alloc o = W) (hS : ∀ k, S k → k < w.heap.size) (hA : Aent W S B g now last A w1) : w1.heap[w.heap.size]? = some o ∧ Aent w S B g now last A w1 ∧ ∀ S' : Nat → Prop, (∀ k, S' k → S k ∨ W.heap.size ≤ k) → ¬ S' w.heap.size := by
  have k1 : Kept w W := by rw [← hW]; exact Kept.one _ _
  have hz : W.heap.size = w.heap.size + 1 := by rw [← hW]; simp
  obtain ⟨S1, h1, s1, f1⟩ := hA
  refine ⟨?_, ⟨S1, h1, fun k c => (s1 k c).imp id (fun c => by omega), (Fr.kept (S := S) k1).trans f1 (fun k c => Or.inl c)⟩, fun S' hs c => ?_⟩
  · rw [f1.block _ (by omega) (fun c => by have := hS _ c; omega), ← hW]; exact St.blk_new _ _
  · rcases hs _ c with c | c
    · have := hS _ c; omega
    · omega

set_option maxHeartbeats 1600000 in
set_option maxRecDepth 100000 in
theorem set_room (h : Alm w S B g now last A) (hx : okN ⟨n, i, s, a, k⟩) (hroom : (drop ⟨n, i, s, a, k⟩ A).length < 4096) (hl : last < 1152921504606846976) :
    Calls Try.prog 16 #[.pointer (some ⟨B, 0, none⟩), .agg #[.int .i64 n, .int .i64 i, .int .i64 s, .int .i64 a, .int .i64 k], .int .i64 t] w (setsYes w S B g now last A ⟨n, i, s, a, k⟩ t) := by
  have FIN := Lib.hid (show ∀ w', Aent w S B g now (last + 1) (put ⟨n, i, s, a, k⟩ (clamp t) (drop ⟨n, i, s, a, k⟩ A)) w' → setsYes w S B g now last A ⟨n, i, s, a, k⟩ t (.returned (.int .i64 0)) w' from fun w' hk => ⟨rfl, by rw [← put_drop h.ord]; exact hk⟩)
  obtain ⟨W, hW⟩ : ∃ W, w.alloc (.cells #[.int .i64 n, .int .i64 i, .int .i64 s, .int .i64 a, .int .i64 k] 42) = W := ⟨_, rfl⟩
  have k1 : Kept w W := by rw [← hW]; exact Kept.one _ _
  have h1 := h.kept k1
  have C := Lib.hid (show Calls Try.prog 30 #[.pointer (some ⟨B, 0, none⟩)] W fun e w' => e = .returned (.bool true) ∧ W = w' by
    obtain ⟨Bw, MA, MN, Sw, L, TA, TN, h2, _⟩ := h1; exact amade_any h2)
  have CL := Lib.hid (clear_any h1 hx)
  have b0 : ∀ o, W.cell? ⟨w.heap.size, o, none⟩ = (#[.int .i64 n, .int .i64 i, .int .i64 s, .int .i64 a, .int .i64 k] : Array Value)[o]? := fun o => by rw [← hW]; exact blk_cell (St.blk_new _ _) o
  have x0 := b0 0
  have x1 := b0 1
  have x2 := b0 2
  have x3 := b0 3
  have x4 := b0 4
  simp at x0 x1 x2 x3 x4
  have HW := Lib.hid hW
  have HX := Lib.hid hx
  have HS := Lib.hid h.lt
  have HR := Lib.hid hroom
  have hnone : timA ⟨n, i, s, a, k⟩ (drop ⟨n, i, s, a, k⟩ A) = none := by rw [tim_none]; intro d hm; exact (mem_drop.1 hm).2 rfl
  have HN := Lib.hid hnone
  have hb := h.bounds
  clear h1 h b0 hW hx k1 hroom hnone
  go_enter Try.func16, Try.ntmps16
  go_wp2_with fail
  rw [HW.out]
  go_wp2_with (first | (go_at_call 30; refine C.out.mono ?_; rintro e w' ⟨rfl, rfl⟩))
  refine CL.out.mono ?_
  rintro e w1 ⟨rfl, hA⟩
  obtain ⟨hbox, hA1, hfar⟩ := aent_box HW.out HS.out hA
  obtain ⟨S1, ⟨Bw, MA, MN, Sw, L, TA, TN, h1, R, g1, g2⟩, s1, f1⟩ := hA
  have hb1 := hfar S1 s1
  obtain ⟨hn, hnum⟩ := whl_handles h1.whl
  have hTA : TA ⟨n, i, s, a, k⟩ = none := by
    have := R.time ⟨n, i, s, a, k⟩
    rw [HN.out] at this
    cases e : TA ⟨n, i, s, a, k⟩ with
    | none => rfl
    | some p => rw [e] at this; cases this
  have hTN : TN (last + 1) = none := by
    cases e : TN (last + 1) with
    | none => rfl
    | some y =>
      obtain ⟨c, hc⟩ := (R.tn _ _).1 e
      have := (hnum _ _ (R.wheel hc)).2.1; omega
  have hL : L.length < 4096 := by have := R.len; have := HR.out; omega
  have d1 := h1.c1
  have d2 := h1.c2
  have hbd := h1.whl.bounds
  have UP := Lib.hid (fun w => up_any t g w)
  have CA := (add_room (w := w1.drew) (h1.whl.kept (Kept.refl _).drew) hL hl (up t g)).mono (fun e w2 (hp : addsYes _ _ _ _ _ _ _ e w2) => show e = .returned (.tuple #[.int .i64 (last + 1), .int .i64 0]) ∧ Adid w1 S1 B Bw MA MN g now (last + 1) (ins (up (clamp t) g) (last + 1) L) TA L.length TN L.length w2 ∧ Fr Sw w1 w2 from ⟨hp.1, by
      obtain ⟨Sw', q1, q2, q3⟩ := hp.2
      have q3' : Fr Sw w1 w2 := ((Fr.refl Sw w1).drew).trans q3 (fun i c => Or.inl c)
      rw [clamp_up, ← up_clamp] at q1
      exact ⟨⟨_, _, h1.wheel q1 q2 q3', fun j c => c.elim Or.inl (fun c => (q2 j c).imp (h1.sub j) id), q3'.mono (fun j c => Or.inl (h1.sub j c))⟩, q3'⟩⟩)
  have hinr : inR (last + 1) := inR_of (by omega) (by omega)
  have CA := Lib.hid CA
  have HB1 := Lib.hid hb1
  have HBX := Lib.hid hbox
  have HRel := Lib.hid (R.put hTA hTN HX.out (clamp_lo t) (clamp_hi t))
  have HTA := Lib.hid hTA
  have HTN := Lib.hid hTN
  have HL := Lib.hid R.len
  have H1 := Lib.hid h1
  have HS1 := Lib.hid s1
  have HF1 := Lib.hid f1
  have HI := Lib.hid hinr
  clear h1 R s1 f1 hA1 hfar hn hnum hTA hTN hbox hb1 C CL x0 x1 x2 x3 x4 hinr
  go_wp2_with fail
  go_region_held3 (fun w' => w'.cell? ⟨B, 1, none⟩ = some (.int .i64 g) ∧ w'.cell? ⟨B, 2, none⟩ = some (.pointer (some ⟨Bw, 0, none⟩)))
    (first | exact ⟨d1, d2⟩ | exact ⟨h2.c1, h2.c2⟩)
    (first | (go_at_call 34; refine (UP.out _).mono ?_; rintro e w' ⟨rfl, rfl⟩) | (go_at_call 33; refine CA.out.mono ?_; rintro e w2 ⟨rfl, ⟨S2, Sw2, h2, s2, f2⟩, f2'⟩))
  have hz1 : w.heap.size < w1.heap.size := blk_lt HBX.out
  have hb2 : w2.heap[w.heap.size]? = some (.cells #[.int .i64 n, .int .i64 i, .int .i64 s, .int .i64 a, .int .i64 k] 42 (0, 0)) :=
    (f2'.block _ hz1 (fun c => HB1.out (H1.out.sub _ c))).trans HBX.out
  have y0 : w2.cell? ⟨w.heap.size, 0, none⟩ = some (.int .i64 n) := by rw [blk_cell hb2]; rfl
  have y1 : w2.cell? ⟨w.heap.size, 1, none⟩ = some (.int .i64 i) := by rw [blk_cell hb2]; rfl
  have y2 : w2.cell? ⟨w.heap.size, 2, none⟩ = some (.int .i64 s) := by rw [blk_cell hb2]; rfl
  have y3 : w2.cell? ⟨w.heap.size, 3, none⟩ = some (.int .i64 a) := by rw [blk_cell hb2]; rfl
  have y4 : w2.cell? ⟨w.heap.size, 4, none⟩ = some (.int .i64 k) := by rw [blk_cell hb2]; rfl
  have d3 := h2.c3
  obtain ⟨cc, hcc⟩ : ∃ c, clamp t = c := ⟨_, rfl⟩
  rw [hcc] at h2
  have TC : ∀ w, Calls Try.prog 35 #[.int .i64 t] w fun e w' => e = .returned (.int .i64 cc) ∧ w = w' := fun w => by have := clamp_any t w; rw [hcc] at this; exact this
  have TC := Lib.hid TC
  obtain ⟨w3, r3, m3, t3⟩ := (h2.ma.kept (w' := w2.drew) rfl).store Try.underlying60 (by omega) (x := ⟨n, i, s, a, k⟩) HX.out [cc, last + 1]
  have h3 := (h2.kept (Kept.refl _).drew).setA (TA' := upd TA ⟨n, i, s, a, k⟩ (some (cc, last + 1))) t3 (by rw [tA_upd]; exact m3)
  rw [tA_some, HTA.out] at h3
  have f3 : Fr S2 w2 w3 := ((Fr.refl S2 w2).drew).turned t3 (Or.inl h2.sA)
  have hne2 : w.heap.size ≠ MA := fun e => HB1.out (e ▸ H1.out.sA)
  have hb3 : w3.heap[w.heap.size]? = some (.cells #[.int .i64 n, .int .i64 i, .int .i64 s, .int .i64 a, .int .i64 k] 42 (0, 0)) :=
    (t3.grown.block _ (blk_lt hb2) (fun e => hne2 (Option.some.inj e))).trans hb2
  obtain ⟨w4, r4, m4, t4⟩ := (h3.mn.kept (w' := w3.drew) rfl).store Try.underlying61 (by omega) (x := last + 1) HI.out (Nm.ints ⟨n, i, s, a, k⟩)
  have h4 := (h3.kept (Kept.refl _).drew).setN (TN' := upd TN (last + 1) (some ⟨n, i, s, a, k⟩)) t4 (by rw [tN_upd]; exact m4)
  rw [tN_some, HTN.out] at h4
  have f4 : Fr S2 w3 w4 := ((Fr.refl S2 w3).drew).turned t4 (Or.inl h2.sN)
  have END : Aent w S B g now (last + 1) (put ⟨n, i, s, a, k⟩ (clamp t) (drop ⟨n, i, s, a, k⟩ A)) w4 := by
    have hR := HRel.out
    have hlen : (ins (up (clamp t) g) (last + 1) L).length = L.length + 1 := ins_length _ _ _
    have kz : w.heap.size ≤ W.heap.size := by rw [← HW.out]; simp
    have fz := HF1.out.size
    refine ⟨S2, ⟨Bw, MA, MN, Sw2, _, _, _, by rw [hlen, hcc]; exact h4, hR, g1, g2⟩, fun j c => ?_, ?_⟩
    · rcases s2 j c with c | c
      · rcases HS1.out j c with c | c
        · exact Or.inl c
        · exact Or.inr (by omega)
      · exact Or.inr (by omega)
    · have a1 : Fr S w w1 := (Fr.kept (S := S) (by rw [← HW.out]; exact Kept.one _ _ : Kept w W)).trans HF1.out (fun j c => Or.inl c)
      have a2 : Fr S w w2 := a1.trans f2 (fun j c => (HS1.out j c).imp id (fun c => by omega))
      have hs2 : ∀ j, S2 j → S j ∨ w.heap.size ≤ j := fun j c => (s2 j c).elim (fun c => (HS1.out j c).imp id (fun c => by omega)) (fun c => Or.inr (by omega))
      exact (a2.trans f3 hs2).trans f4 hs2
  have END := Lib.hid END
  have z0 : w3.cell? ⟨w.heap.size, 0, none⟩ = some (.int .i64 n) := by rw [blk_cell hb3]; rfl
  have z1 : w3.cell? ⟨w.heap.size, 1, none⟩ = some (.int .i64 i) := by rw [blk_cell hb3]; rfl
  have z2 : w3.cell? ⟨w.heap.size, 2, none⟩ = some (.int .i64 s) := by rw [blk_cell hb3]; rfl
  have z3 : w3.cell? ⟨w.heap.size, 3, none⟩ = some (.int .i64 a) := by rw [blk_cell hb3]; rfl
  have z4 : w3.cell? ⟨w.heap.size, 4, none⟩ = some (.int .i64 k) := by rw [blk_cell hb3]; rfl
  have d4 := h3.c4
  replace r3 : (Instr.mapUpdate 60 (.map (some MA)) (.agg #[.int .i64 n, .int .i64 i, .int .i64 s, .int .i64 a, .int .i64 k]) (.agg #[.int .i64 cc, .int .i64 (last + 1)])).run Try.prog w2.drew = .ok () w3 := r3
  replace r4 : (Instr.mapUpdate 61 (.map (some MN)) (.int .i64 (last + 1)) (.agg #[.int .i64 n, .int .i64 i, .int .i64 s, .int .i64 a, .int .i64 k])).run Try.prog w3.drew = .ok () w4 := r4
  clear h2 s2 f2 f2' hb2 hcc m3 t3 h3 f3 hne2 hb3 m4 t4 h4 f4 CA UP d1 d2 hz1
  go_wp2_with fail
  refine wp_region_still_tail 9 (by kernel_rfl) (by kernel_rfl) ?_
  change wpStill _ _ (World.drew _) (fun a' => wpList _ _ _ _ a' (World.drew _)) _ _
  simp only [List.take_succ_cons, List.take_zero, List.drop_succ_cons, List.drop_zero]
  repeat (first | still_step | still_call ((TC.out _).mono fun _ _ h => ⟨h.1, h.2.symm⟩))
  refine wpStill_nil ?_
  go_wp2_with fail
  go_region
  go_wp2_with fail
  go_ret
  exact FIN.out _ END.out
end

end Go.Proofs.Ytckmkagijanbdaa.Al
