/- Package packet: which packets may be, whole. -/
import Derived.Test.YtpgfaklnbehmhaaDoorPk3
import Derived.Test.YtpgfaklnbehmhaaDoorPkE
namespace Go.Proofs.YtpgfaklnbehmhaaDoor.Pk
open Go.RowKit Go.Sort St BsM IdM PkM
open Go.Proofs.YtpgfaklnbehmhaaDoor.Id
open Go.Proofs.YtpgfaklnbehmhaaDoor.Bs (kept_blk)
set_option linter.unusedVariables false

theorem first6 (a b c d e f : Bool) : a = false ∨ (a = true ∧ b = false) ∨ (a = true ∧ b = true ∧ c = false) ∨ (a = true ∧ b = true ∧ c = true ∧ d = false) ∨ (a = true ∧ b = true ∧ c = true ∧ d = true ∧ e = false) ∨ (a = true ∧ b = true ∧ c = true ∧ d = true ∧ e = true) := by
  cases a <;> cases b <;> cases c <;> cases d <;> cases e <;> simp

set_option maxRecDepth 100000 in
set_option maxHeartbeats 4000000 in
theorem call_as {p : Pk} {z : Bool} (hz : Hid (callB p = z)) {w : World} : Calls Tryd.prog 41 #[.agg p.arr] w fun e w' => e = .returned (.bool z) ∧ Kept w w' := by
  have hA := At.new w p
  have x7 : p.arr[7]? = some (.int .i64 p.hop) := rfl
  have x8 : p.arr[8]? = some (.int .i64 p.stamp) := rfl
  have x9 : p.arr[9]? = some (.string p.tm) := rfl
  have x10 : p.arr[10]? = some (.int .i64 p.til) := rfl
  have x11 : p.arr[11]? = some (.int .i64 p.prog) := rfl
  have x12 : p.arr[12]? = some (.int .i64 p.rn) := rfl
  have x13 : p.arr[13]? = some (.int .i64 p.ri) := rfl
  have x14 : p.arr[14]? = some (.int .i64 p.rs) := rfl
  obtain ⟨z0, h0⟩ : ∃ z, Hid (decB p = z) := ⟨_, rfl⟩
  obtain ⟨z1, h1⟩ : ∃ z, Hid (decide (1 ≤ p.hop ∧ p.hop ≤ 16) = z) := ⟨_, rfl⟩
  obtain ⟨z2, h2⟩ : ∃ z, Hid (timeB p.stamp = z) := ⟨_, rfl⟩
  obtain ⟨z3, h3⟩ : ∃ z, Hid (timeB p.til = z) := ⟨_, rfl⟩
  obtain ⟨z4, h4⟩ : ∃ z, Hid (decide (0 ≤ p.prog ∧ p.prog ≤ 15) = z) := ⟨_, rfl⟩
  obtain ⟨z5, h5⟩ : ∃ z, Hid (rightB p.rn p.ri p.rs = z) := ⟨_, rfl⟩
  obtain ⟨z6, h6⟩ : ∃ z, Hid (keyB p.pn p.pi p.ps p.pa = z) := ⟨_, rfl⟩
  have hb := Lib.hid (show z = (z0 && (z1 && (z2 && (z3 && (z4 && (z5 && z6)))))) by rw [← hz.out, ← h0.out, ← h1.out, ← h2.out, ← h3.out, ← h4.out, ← h5.out, ← h6.out]; rfl)
  have hd := Tm.dec_any p.tm (w.alloc (.cells p.arr 27 (0, 0)))
  obtain ⟨E, hE⟩ : ∃ E, (Tm.dec p.tm.data.toList).2 = E := ⟨_, rfl⟩
  have hE0 : decide (E = 0) = z0 := by rw [← hE]; exact h0.out
  obtain ⟨T, hT⟩ : ∃ T, (Tm.dec p.tm.data.toList).1 = T := ⟨_, rfl⟩
  rw [hE, hT] at hd
  have HD := Lib.hid hd
  have hE1 : (E != 0) = !z0 := by rw [← hE0]; simp [bne, BEq.beq]
  clear hz hd hE hT hE0
  cases z0
  case false =>
    go_enter Tryd.func41, Tryd.ntmps41
    go_wp2_with (go_at_call 61; refine HD.out.mono ?_; rintro e w' ⟨rfl, rfl⟩)
    go_ret
    exact ⟨ret_bool hb.out.symm, hA.kept⟩
  rcases first6 z1 z2 z3 z4 z5 z6 with rfl | ⟨rfl, rfl⟩ | ⟨rfl, rfl, rfl⟩ | ⟨rfl, rfl, rfl, rfl⟩ | ⟨rfl, rfl, rfl, rfl, rfl⟩ | ⟨rfl, rfl, rfl, rfl, rfl⟩
  case' inr.inr.inr.inr.inr => cases z6
  case inr.inr.inr.inr.inl | inr.inr.inr.inr.inr.false | inr.inr.inr.inr.inr.true =>
    go_enter Tryd.func41, Tryd.ntmps41
    go_wp2_with (first
      | (go_at_call 61; refine HD.out.mono ?_; rintro e w' ⟨rfl, rfl⟩)
      | (go_at_call 44; (first | ((with_reducible refine (within_as h1).mono ?_); rintro e w' ⟨rfl, rfl⟩) | ((with_reducible refine (within_as h4).mono ?_); rintro e w' ⟨rfl, rfl⟩)))
      | (go_at_call 43; (first | ((with_reducible refine (time_as h2).mono ?_); rintro e w' ⟨rfl, rfl⟩) | ((with_reducible refine (time_as h3).mono ?_); rintro e w' ⟨rfl, rfl⟩)))
      | (go_at_call 59; refine (at_as hA (right_as h5)).mono ?_; rintro e u ⟨rfl, hB⟩
         have y15 : u.cell? ⟨w.heap.size, 15, none⟩ = some (.int .i64 p.pn) := hB.c 15
         have y16 : u.cell? ⟨w.heap.size, 16, none⟩ = some (.int .i64 p.pi) := hB.c 16
         have y17 : u.cell? ⟨w.heap.size, 17, none⟩ = some (.int .i64 p.ps) := hB.c 17
         have y18 : u.cell? ⟨w.heap.size, 18, none⟩ = some (.int .i64 p.pa) := hB.c 18)
      | (go_at_call 40; refine (at_as hB (key_as h6)).mono ?_; rintro e v ⟨rfl, hC⟩))
    go_ret
    exact ⟨ret_bool hb.out.symm, by first | exact hC.kept | exact hB.kept⟩
  all_goals
    go_enter Tryd.func41, Tryd.ntmps41
    go_wp2_with (first
      | (go_at_call 61; refine HD.out.mono ?_; rintro e w' ⟨rfl, rfl⟩)
      | (go_at_call 44; (first | ((with_reducible refine (within_as h1).mono ?_); rintro e w' ⟨rfl, rfl⟩) | ((with_reducible refine (within_as h4).mono ?_); rintro e w' ⟨rfl, rfl⟩)))
      | (go_at_call 43; (first | ((with_reducible refine (time_as h2).mono ?_); rintro e w' ⟨rfl, rfl⟩) | ((with_reducible refine (time_as h3).mono ?_); rintro e w' ⟨rfl, rfl⟩))))
    go_ret
    exact ⟨ret_bool hb.out.symm, hA.kept⟩

theorem rest1 {p : Pk} (h : p.kind = 1) : restB p = callB p := by unfold restB; rw [if_pos h]
theorem rest2 {p : Pk} (h : p.kind = 2) : restB p = replyB p := by unfold restB; rw [if_neg (by omega), if_pos h]
theorem rest3 {p : Pk} (h : p.kind = 3) : restB p = true := by unfold restB; rw [if_neg (by omega), if_neg (by omega), if_pos h]
theorem rest4 {p : Pk} (h : p.kind = 4) : restB p = timeB p.til := by unfold restB; rw [if_neg (by omega), if_neg (by omega), if_neg (by omega), if_pos h]
theorem rest5 {p : Pk} (h : p.kind = 5) : restB p = decide (-1 ≤ p.delay ∧ p.delay ≤ 1125899906842624) := by unfold restB; rw [if_neg (by omega), if_neg (by omega), if_neg (by omega), if_neg (by omega), if_pos h]
theorem rest0 {p : Pk} (h : p.kind ≠ 1 ∧ p.kind ≠ 2 ∧ p.kind ≠ 3 ∧ p.kind ≠ 4 ∧ p.kind ≠ 5) : restB p = false := by unfold restB; rw [if_neg h.1, if_neg h.2.1, if_neg h.2.2.1, if_neg h.2.2.2.1, if_neg h.2.2.2.2]

set_option maxRecDepth 100000 in
set_option maxHeartbeats 4000000 in
theorem rest_as {p : Pk} {z : Bool} (hz : Hid (restB p = z)) {w : World} : Calls Tryd.prog 22 #[.agg p.arr] w fun e w' => e = .returned (.bool z) ∧ Kept w w' := by
  have hA := At.new w p
  have x10 : p.arr[10]? = some (.int .i64 p.til) := rfl
  have x22 : p.arr[22]? = some (.int .i64 p.delay) := rfl
  rcases kinds p.kind with h | h | h | h | h | h
  · have x0 : p.arr[0]? = some (.int .i64 1) := by rw [← h]; rfl
    have hc : Hid (callB p = z) := Lib.hid (by rw [← rest1 h]; exact hz.out)
    clear h
    go_enter Tryd.func22, Tryd.ntmps22
    go_wp2_with (first | (refine wpList_load_row rfl 27 (.tmp 1) rfl w.heap.size rfl 27 p.arr (0, 0) _ (blk_new w _) Tryd.underlying27 rfl info_pk ?_) | (go_at_call 41; refine (at_as hA (call_as hc)).mono ?_; rintro e u ⟨rfl, hB⟩))
    go_ret
    exact ⟨rfl, hB.kept⟩
  · have x0 : p.arr[0]? = some (.int .i64 2) := by rw [← h]; rfl
    have hc : Hid (replyB p = z) := Lib.hid (by rw [← rest2 h]; exact hz.out)
    clear h
    go_enter Tryd.func22, Tryd.ntmps22
    go_wp2_with (first | (refine wpList_load_row rfl 27 (.tmp 1) rfl w.heap.size rfl 27 p.arr (0, 0) _ (blk_new w _) Tryd.underlying27 rfl info_pk ?_) | (go_at_call 42; refine (at_as hA (reply_as hc)).mono ?_; rintro e u ⟨rfl, hB⟩))
    go_ret
    exact ⟨rfl, hB.kept⟩
  · have x0 : p.arr[0]? = some (.int .i64 3) := by rw [← h]; rfl
    have hc : Hid (true = z) := Lib.hid (by rw [← rest3 h]; exact hz.out)
    clear h
    go_enter Tryd.func22, Tryd.ntmps22
    go_wp2_with fail
    go_ret
    exact ⟨ret_bool hc.out, hA.kept⟩
  · have x0 : p.arr[0]? = some (.int .i64 4) := by rw [← h]; rfl
    have hc : Hid (timeB p.til = z) := Lib.hid (by rw [← rest4 h]; exact hz.out)
    clear h
    go_enter Tryd.func22, Tryd.ntmps22
    go_wp2_with (go_at_call 43; refine (time_as hc).mono ?_; rintro e u ⟨rfl, rfl⟩)
    go_ret
    exact ⟨rfl, hA.kept⟩
  · have x0 : p.arr[0]? = some (.int .i64 5) := by rw [← h]; rfl
    have hc : Hid (decide (-1 ≤ p.delay ∧ p.delay ≤ 1125899906842624) = z) := Lib.hid (by rw [← rest5 h]; exact hz.out)
    clear h
    go_enter Tryd.func22, Tryd.ntmps22
    go_wp2_with (go_at_call 44; refine (within_as hc).mono ?_; rintro e u ⟨rfl, rfl⟩)
    go_ret
    exact ⟨rfl, hA.kept⟩
  · have x0 : p.arr[0]? = some (.int .i64 p.kind) := rfl
    have hc : Hid (false = z) := Lib.hid (by rw [← rest0 h]; exact hz.out)
    have e1 : (p.kind == 1) = false := by simpa using h.1
    have e2 : (p.kind == 2) = false := by simpa using h.2.1
    have e3 : (p.kind == 3) = false := by simpa using h.2.2.1
    have e4 : (p.kind == 4) = false := by simpa using h.2.2.2.1
    have e5 : (p.kind == 5) = false := by simpa using h.2.2.2.2
    clear h
    go_enter Tryd.func22, Tryd.ntmps22
    go_wp2_with fail
    go_ret
    exact ⟨ret_bool hc.out, hA.kept⟩

end Go.Proofs.YtpgfaklnbehmhaaDoor.Pk
