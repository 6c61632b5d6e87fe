/- How laws of alarms are walked: what a law has; alarms' methods as a law meets them; the chapter's example. -/
import Derived.Test.YtckmkagijanbdaaAl5
import Derived.Test.YtckmkagijanbdaaAl7
import Derived.Laws.Rows
namespace Go.Proofs.Ytckmkagijanbdaa.Al
open Go.RowKit Go.Sort Tk Wh IdM
open St (Kept blk_cell blk_free blk_lt blk_set)
set_option linter.unusedVariables false

/-- what was there when the law began stays, and all that it has is new -/
structure Acc (w0 : World) (S : Nat → Prop) (w : World) : Prop where
  kept : Kept w0 w
  new : ∀ k, S k → w0.heap.size ≤ k
section
variable {w0 w w' : World} {S S' : Nat → Prop}
theorem Acc.step (a : Acc w0 S w) (f : Fr S w w') (s : ∀ k, S' k → S k ∨ w.heap.size ≤ k) : Acc w0 S' w' := by
  have := a.kept.size
  exact ⟨((Fr.kept (S := S) a.kept).trans f (fun k c => Or.inl c)).keeps a.new, fun k c => (s k c).elim (a.new k) (fun c => by omega)⟩
theorem Acc.go (a : Acc w0 S w) (k : Kept w w') : Acc w0 S w' := ⟨a.kept.trans k, a.new⟩
end

section
variable {w w' : World} {S : Nat → Prop} {B : Nat} {g now last : Int} {A : List (Nm × Int)}
theorem made_al (h : Alm w S B g now last A) : Calls Try.prog 30 #[.pointer (some ⟨B, 0, none⟩)] w fun e w' => e = .returned (.bool true) ∧ w = w' := by
  obtain ⟨Bw, MA, MN, Sw, L, TA, TN, h1, R, _⟩ := h; exact amade_any h1
theorem grain_al (h : Alm w S B g now last A) : Calls Try.prog 13 #[.pointer (some ⟨B, 0, none⟩)] w fun e w' => e = .returned (.int .i64 g) ∧ w = w' := by
  obtain ⟨Bw, MA, MN, Sw, L, TA, TN, h1, R, _⟩ := h; exact grain_is h1
theorem len_al (h : Alm w S B g now last A) : Calls Try.prog 11 #[.pointer (some ⟨B, 0, none⟩)] w fun e w' => e = .returned (.int .i64 (A.length : Int)) ∧ w = w' := by
  obtain ⟨Bw, MA, MN, Sw, L, TA, TN, h1, R, _⟩ := h; rw [R.len]; exact len_is h1
theorem time_al (h : Alm w S B g now last A) {n i s a k : Int} (hx : okN ⟨n, i, s, a, k⟩) :
    Calls Try.prog 20 #[.pointer (some ⟨B, 0, none⟩), .agg #[.int .i64 n, .int .i64 i, .int .i64 s, .int .i64 a, .int .i64 k]] w fun e w' =>
      e = .returned (.tuple #[.int .i64 ((timA ⟨n, i, s, a, k⟩ A).getD 0), .bool (timA ⟨n, i, s, a, k⟩ A).isSome]) ∧ Kept w w' := by
  obtain ⟨Bw, MA, MN, Sw, L, TA, TN, h1, R, _⟩ := h
  rw [R.time]
  refine (time_is h1 hx).mono fun e w' hp => ⟨hp.1.trans ?_, hp.2⟩
  rw [Option.isSome_map]

set_option maxHeartbeats 400000 in
set_option maxRecDepth 100000 in
theorem mine_any (n i s a k : Int) (w : World) : Calls Try.prog 14 #[.agg #[.int .i64 n, .int .i64 i, .int .i64 s, .int .i64 a, .int .i64 k]] w fun e w' =>
    e = .returned (.agg #[.int .i64 n, .int .i64 i, .int .i64 s, .int .i64 a, .int .i64 k]) ∧ Kept w w' := by
  go_enter Try.func14, Try.ntmps14
  go_wp2
  refine bodyPost_ret (results_cell_row rfl _ _ (w.heap.size + 1) 42 #[.int .i64 n, .int .i64 i, .int .i64 s, .int .i64 a, .int .i64 k] (0, 0) _ rfl ?_ Try.underlying42 rfl (by kernel_rfl)) rfl ⟨rfl, (Kept.one w _).more _⟩
  have := St.blk_new (w.alloc (.cells #[.int .i64 n, .int .i64 i, .int .i64 s, .int .i64 a, .int .i64 k] 33)) (.cells #[.int .i64 n, .int .i64 i, .int .i64 s, .int .i64 a, .int .i64 k] 42)
  simpa using this
end

section
variable {w w' : World} {v : Value} {L : List (List Int)}
theorem RowI.one5 {n i s a k : Int} (h : RowI w v 42 5 [[n, i, s, a, k]]) : ∃ b cap, v = .slice (some ⟨b, 0, none⟩) 1 cap ∧ w.cell? ⟨b, 0, none⟩ = some (.int .i64 n) ∧ w.cell? ⟨b, 1, none⟩ = some (.int .i64 i) ∧ w.cell? ⟨b, 2, none⟩ = some (.int .i64 s) ∧ w.cell? ⟨b, 3, none⟩ = some (.int .i64 a) ∧ w.cell? ⟨b, 4, none⟩ = some (.int .i64 k) := by
  obtain ⟨b, cap, e, _, _, hc⟩ := h.at (i := 0) (l := [n, i, s, a, k]) rfl
  simp only [Nat.zero_mul, Nat.zero_add] at hc
  exact ⟨b, cap, e, hc 0 _ rfl, hc 1 _ rfl, hc 2 _ rfl, hc 3 _ rfl, hc 4 _ rfl⟩
end

theorem ok_one : okN ⟨0, 0, 0, 0, 1⟩ := by simp [okN, I64]

set_option maxHeartbeats 1000000 in
set_option maxRecDepth 100000 in
theorem awake_any (w : World) : Calls Try.prog 15 #[] w fun e w' => e = .returned (.bool true) ∧ Kept w w' := by
  go_enter Try.func15, Try.ntmps15
  go_wp2_with fail
  refine (anew_any 2).mono ?_
  rintro e w1 ⟨S1, B, rfl, h1, s1, k1⟩
  have hg : gr 2 = 4 := by decide
  rw [hg] at h1
  have A1 : Acc w S1 w1 := ⟨k1, s1⟩
  clear hg s1 k1
  obtain ⟨W1, hW1⟩ : ∃ W1, w1.alloc (.cells #[.int .i64 0, .int .i64 0, .int .i64 0, .int .i64 0, .int .i64 1] 42) = W1 := ⟨_, rfl⟩
  have k1 : Kept w1 W1 := by rw [← hW1]; exact Kept.one _ _
  have b1 : W1.heap[w1.heap.size]? = some (.cells #[.int .i64 0, .int .i64 0, .int .i64 0, .int .i64 0, .int .i64 1] 42 (0, 0)) := by rw [← hW1]; exact St.blk_new _ _
  have n1 : ¬ S1 w1.heap.size := fun c => by have := h1.lt _ c; omega
  have CS := Lib.hid (set_room (t := 5) (h1.kept k1) (n := 0) (i := 0) (s := 0) (a := 0) (k := 1) ok_one (by decide) (by decide))
  have HW1 := Lib.hid hW1
  have A2 := A1.go k1
  have HB1 := Lib.hid b1
  clear hW1 h1 k1 b1 A1
  go_wp2_with fail
  rw [HW1.out]
  refine CS.out.mono ?_
  rintro e w2 ⟨rfl, S2, h2, s2, f2⟩
  have e2 : put ⟨0, 0, 0, 0, 1⟩ (clamp 5) [] = [((⟨0, 0, 0, 0, 1⟩ : Nm), (5 : Int))] := by decide
  rw [e2] at h2
  have C7 := Lib.hid (due_any (to := 7) h2 7 (by decide))
  clear e2 h2 CS
  go_wp2_with fail
  refine C7.out.mono ?_
  rintro e w3 ⟨v3, S3, rfl, r3, h3, s3, f3, n3⟩
  have e3 : dueA 4 7 [((⟨0, 0, 0, 0, 1⟩ : Nm), (5 : Int))] = [] := by decide
  have e4 : restA 4 7 [((⟨0, 0, 0, 0, 1⟩ : Nm), (5 : Int))] = [((⟨0, 0, 0, 0, 1⟩ : Nm), (5 : Int))] := by decide
  rw [e3] at r3
  rw [e4] at h3
  obtain ⟨p3, c3, rfl⟩ := RowI.nil r3
  have C8 := Lib.hid (due_any (to := 8) h3 8 (by decide))
  clear e3 e4 h3 r3 C7 n3
  go_wp2_with fail
  refine C8.out.mono ?_
  rintro e w4 ⟨v4, S4, rfl, r4, h4, s4, f4, n4⟩
  have e5 : dueA 4 8 [((⟨0, 0, 0, 0, 1⟩ : Nm), (5 : Int))] = [((⟨0, 0, 0, 0, 1⟩ : Nm), (5 : Int))] := by decide
  have e6 : restA 4 8 [((⟨0, 0, 0, 0, 1⟩ : Nm), (5 : Int))] = [] := by decide
  rw [e5] at r4
  rw [e6] at h4
  obtain ⟨b4, c4, rfl, x0, x1, x2, x3, x4⟩ := RowI.one5 r4
  have z1 : w1.heap.size < W1.heap.size := blk_lt HB1.out
  have m2 : ¬ S2 w1.heap.size := fun c => (s2 _ c).elim n1 (fun c => by omega)
  have z2 := f2.size
  have m3 : ¬ S3 w1.heap.size := fun c => (s3 _ c).elim m2 (fun c => by omega)
  have z3 := f3.size
  have bb : w4.heap[w1.heap.size]? = some (.cells #[.int .i64 0, .int .i64 0, .int .i64 0, .int .i64 0, .int .i64 1] 42 (0, 0)) :=
    (f4.block _ (by omega) m3).trans ((f3.block _ (by omega) m2).trans ((f2.block _ z1 n1).trans HB1.out))
  have y0 : w4.cell? ⟨w1.heap.size, 0, none⟩ = some (.int .i64 0) := by rw [blk_cell bb]; rfl
  have y1 : w4.cell? ⟨w1.heap.size, 1, none⟩ = some (.int .i64 0) := by rw [blk_cell bb]; rfl
  have y2 : w4.cell? ⟨w1.heap.size, 2, none⟩ = some (.int .i64 0) := by rw [blk_cell bb]; rfl
  have y3 : w4.cell? ⟨w1.heap.size, 3, none⟩ = some (.int .i64 0) := by rw [blk_cell bb]; rfl
  have y4 : w4.cell? ⟨w1.heap.size, 4, none⟩ = some (.int .i64 1) := by rw [blk_cell bb]; rfl
  have FIN := Lib.hid ((((A2.step f2 s2).step f3 s3).step f4 s4).kept)
  have CG := Lib.hid (fun n => grain_al (h4.kept ((Kept.refl w4).drewN n)))
  have CL := Lib.hid (fun n => len_al (h4.kept ((Kept.refl w4).drewN n)))
  clear h4 r4 s2 s3 s4 f2 f3 f4 n4 C8 e5 e6 bb m2 m3 z1 z2 z3 n1 A2
  go_wp2_with fail
  go_quiet ((first | (go_at_call 13; exact Calls.quiet_of_same ((CG.out _).mono fun _ _ h => ⟨h.1, h.2.symm⟩)) | (go_at_call 11; exact Calls.quiet_of_same ((CL.out _).mono fun _ _ h => ⟨h.1, h.2.symm⟩))))
  go_wp2_with fail
  go_ret
  exact ⟨rfl, FIN.out.drewN _⟩

end Go.Proofs.Ytckmkagijanbdaa.Al
