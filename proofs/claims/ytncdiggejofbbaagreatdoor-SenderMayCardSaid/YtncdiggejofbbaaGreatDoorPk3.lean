/- Package packet: which packets may be. Package packet: which packets may be, whole. Package packet: which packets may be; and the document's. -/
import Derived.Test.YtncdiggejofbbaaGreatDoorPk
import Derived.Test.YtncdiggejofbbaaGreatDoorId
import Derived.Test.YtncdiggejofbbaaGreatDoorTm
import Derived.Test.YtncdiggejofbbaaGreatDoorCd
import Derived.Test.YtncdiggejofbbaaGreatDoorPkE
namespace Go.Proofs.YtncdiggejofbbaaGreatDoor.Pk
open Go.RowKit Go.Sort St BsM IdM PkM
open Go.Proofs.YtncdiggejofbbaaGreatDoor.Id
open Go.Proofs.YtncdiggejofbbaaGreatDoor.Bs (kept_blk)
set_option linter.unusedVariables false

/-- where a call on a packet in a block of its own stands -/
structure At (w : World) (p : Pk) (u : World) : Prop where
  kept : Kept w u
  blk : u.heap[w.heap.size]? = some (.cells p.arr 43 (0, 0))
theorem At.go {w : World} {p : Pk} {u v : World} (h : At w p u) (k : Kept u v) : At w p v := ⟨h.kept.trans k, kept_blk k h.blk⟩
theorem At.new (w : World) (p : Pk) : At w p (w.alloc (.cells p.arr 43 (0, 0))) := ⟨Kept.one _ _, blk_new _ _⟩
theorem At.c {w : World} {p : Pk} {u : World} (h : At w p u) (k : Nat) : u.cell? ⟨w.heap.size, k, none⟩ = p.arr[k]? := blk_cell h.blk k
theorem boxp (w : World) (p : Pk) : ∃ W : World, w.alloc (.cells p.arr 43 (0, 0)) = W ∧ At w p W := ⟨_, rfl, At.new w p⟩
theorem at_as {w : World} {p : Pk} {f : FuncId} {args : Array Value} {v : Value} {u : World} (h : At w p u) (k : Calls Tryz.prog f args u fun e x => e = .returned v ∧ Kept u x) : Calls Tryz.prog f args u fun e x => e = .returned v ∧ At w p x :=
  k.mono fun _ _ ⟨he, hk⟩ => ⟨he, h.go hk⟩

theorem within_as {n a b : Int} {z : Bool} (hz : Hid (decide (a ≤ n ∧ n ≤ b) = z)) {w : World} :
    Calls Tryz.prog 78 #[.int .i64 n, .int .i64 a, .int .i64 b] w fun e w' => e = .returned (.bool z) ∧ w = w' := by
  by_cases h1 : a ≤ n
  · by_cases h2 : n ≤ b
    · have hz' := Lib.hid (show z = true by rw [← hz.out]; simp [h1, h2])
      go_enter Tryz.func78, Tryz.ntmps78
      go_wp2_with fail
      go_ret
      exact ⟨ret_bool hz'.out.symm, rfl⟩
    · have hz' := Lib.hid (show z = false by rw [← hz.out]; simp [h2])
      go_enter Tryz.func78, Tryz.ntmps78
      go_wp2_with fail
      go_ret
      exact ⟨ret_bool hz'.out.symm, rfl⟩
  · have hz' := Lib.hid (show z = false by rw [← hz.out]; simp [h1])
    go_enter Tryz.func78, Tryz.ntmps78
    go_wp2_with fail
    go_ret
    exact ⟨ret_bool hz'.out.symm, rfl⟩
theorem node_as {n : Int} {z : Bool} (hz : Hid (nodeB n = z)) {w : World} : Calls Tryz.prog 73 #[.int .i64 n] w fun e w' => e = .returned (.bool z) ∧ w = w' := by
  have h : Hid (decide (0 ≤ n ∧ n ≤ 63) = z) := hz
  clear hz
  go_enter Tryz.func73, Tryz.ntmps73
  go_wp2_with (go_at_call 78; refine (within_as h).mono ?_; rintro e w' ⟨rfl, rfl⟩)
  go_ret
  exact ⟨rfl, rfl⟩
theorem time_as {n : Int} {z : Bool} (hz : Hid (timeB n = z)) {w : World} : Calls Tryz.prog 77 #[.int .i64 n] w fun e w' => e = .returned (.bool z) ∧ w = w' := by
  have h : Hid (decide (0 ≤ n ∧ n ≤ 1125899906842624) = z) := hz
  clear hz
  go_enter Tryz.func77, Tryz.ntmps77
  go_wp2_with (go_at_call 78; refine (within_as h).mono ?_; rintro e w' ⟨rfl, rfl⟩)
  go_ret
  exact ⟨rfl, rfl⟩

set_option maxRecDepth 100000 in
set_option maxHeartbeats 1000000 in
theorem head_as {p : Pk} {z : Bool} (hz : Hid (headB p = z)) {w : World} : Calls Tryz.prog 53 #[.agg p.arr] w fun e w' => e = .returned (.bool z) ∧ Kept w w' := by
  have hA := At.new w p
  have x1 : p.arr[1]? = some (.int .i64 p.fr) := rfl
  have x2 : p.arr[2]? = some (.int .i64 p.to) := rfl
  have x3 : p.arr[3]? = some (.int .i64 p.kn) := rfl
  have x4 : p.arr[4]? = some (.int .i64 p.ki) := rfl
  have x5 : p.arr[5]? = some (.int .i64 p.ks) := rfl
  have x6 : p.arr[6]? = some (.int .i64 p.ka) := rfl
  obtain ⟨z1, h1⟩ : ∃ z, Hid (nodeB p.fr = z) := ⟨_, rfl⟩
  obtain ⟨z2, h2⟩ : ∃ z, Hid (nodeB p.to = z) := ⟨_, rfl⟩
  obtain ⟨z3, h3⟩ : ∃ z, Hid (keyB p.kn p.ki p.ks p.ka = z) := ⟨_, rfl⟩
  obtain ⟨z4, h4⟩ : ∃ z, decide (1 ≤ p.ka) = z := ⟨_, rfl⟩
  have hb := Lib.hid (show z = (z1 && (z2 && (z3 && z4))) by rw [← hz.out, ← h1.out, ← h2.out, ← h3.out, ← h4]; rfl)
  clear hz
  cases z1
  case false =>
    clear h4
    go_enter Tryz.func53, Tryz.ntmps53
    go_wp2_with (go_at_call 73; refine (node_as h1).mono ?_; rintro e w' ⟨rfl, rfl⟩)
    go_ret
    exact ⟨ret_bool hb.out.symm, hA.kept⟩
  cases z2
  case true.false =>
    clear h4
    go_enter Tryz.func53, Tryz.ntmps53
    go_wp2_with (go_at_call 73; (first | ((with_reducible refine (node_as h1).mono ?_); rintro e w' ⟨rfl, rfl⟩) | ((with_reducible refine (node_as h2).mono ?_); rintro e w' ⟨rfl, rfl⟩)))
    go_ret
    exact ⟨ret_bool hb.out.symm, hA.kept⟩
  cases z3
  case true.true.false =>
    clear h4
    go_enter Tryz.func53, Tryz.ntmps53
    go_wp2_with (first
      | (go_at_call 73; (first | ((with_reducible refine (node_as h1).mono ?_); rintro e w' ⟨rfl, rfl⟩) | ((with_reducible refine (node_as h2).mono ?_); rintro e w' ⟨rfl, rfl⟩)))
      | (go_at_call 74; refine (at_as hA (key_as h3)).mono ?_; rintro e u ⟨rfl, hB⟩))
    go_ret
    exact ⟨ret_bool hb.out.symm, hB.kept⟩
  all_goals
    cases z4
    all_goals
      go_enter Tryz.func53, Tryz.ntmps53
      go_wp2_with (first
        | (go_at_call 73; (first | ((with_reducible refine (node_as h1).mono ?_); rintro e w' ⟨rfl, rfl⟩) | ((with_reducible refine (node_as h2).mono ?_); rintro e w' ⟨rfl, rfl⟩)))
        | (go_at_call 74; refine (at_as hA (key_as h3)).mono ?_; rintro e u ⟨rfl, hB⟩; have y6 : u.cell? ⟨w.heap.size, 6, none⟩ = some (.int .i64 p.ka) := hB.c 6))
      go_ret
      exact ⟨ret_bool (by rw [hb.out]; first | rfl | (simp only [h4]; rfl)), hB.kept⟩

set_option maxRecDepth 100000 in
set_option maxHeartbeats 1000000 in
theorem reply_as {p : Pk} {z : Bool} (hz : Hid (replyB p = z)) {w : World} : Calls Tryz.prog 76 #[.agg p.arr] w fun e w' => e = .returned (.bool z) ∧ Kept w w' := by
  have hA := At.new w p
  have x19 : p.arr[19]? = some (.int .i64 p.code) := rfl
  have x20 : p.arr[20]? = some (.int .i64 p.value) := rfl
  cases hm : p.more
  · have x21 : p.arr[21]? = some (.bool false) := by rw [← hm]; rfl
    obtain ⟨z1, h1⟩ : ∃ z, Hid (Cd.right p.code = z) := ⟨_, rfl⟩
    obtain ⟨z2, h2⟩ : ∃ z, Hid (decide (0 ≤ p.value ∧ p.value ≤ 2147483647) = z) := ⟨_, rfl⟩
    have hb := Lib.hid (show z = (z1 && z2) by rw [← hz.out, ← h1.out, ← h2.out]; unfold replyB; rw [hm]; rfl)
    have hr := Cd.right_any p.code (w.alloc (.cells p.arr 43 (0, 0)))
    rw [h1.out] at hr
    have HR := Lib.hid hr
    clear hz hm hr
    cases z1 <;> cases z2
    all_goals
      go_enter Tryz.func76, Tryz.ntmps76
      go_wp2_with (first | (go_at_call 60; refine HR.out.mono ?_; rintro e w' ⟨rfl, rfl⟩) | (go_at_call 78; refine (within_as h2).mono ?_; rintro e w' ⟨rfl, rfl⟩))
      go_ret
      exact ⟨ret_bool hb.out.symm, hA.kept⟩
  · have x21 : p.arr[21]? = some (.bool true) := by rw [← hm]; rfl
    obtain ⟨z1, h1⟩ : ∃ z, (p.code == 0) = z := ⟨_, rfl⟩
    obtain ⟨z2, h2⟩ : ∃ z, (p.value == 0) = z := ⟨_, rfl⟩
    have hb := Lib.hid (show z = (z1 && z2) by rw [← hz.out, ← h1, ← h2]; unfold replyB; rw [hm]; rfl)
    clear hz hm
    cases z1 <;> cases z2
    all_goals
      go_enter Tryz.func76, Tryz.ntmps76
      go_wp2_with fail
      go_ret
      exact ⟨ret_bool (by first | exact hb.out.symm | (rw [hb.out]; exact h1) | (rw [hb.out]; exact h2)), hA.kept⟩

end Go.Proofs.YtncdiggejofbbaaGreatDoor.Pk

namespace Go.Proofs.YtncdiggejofbbaaGreatDoor.Pk
open Go.RowKit Go.Sort St BsM IdM PkM
open Go.Proofs.YtncdiggejofbbaaGreatDoor.Id
open Go.Proofs.YtncdiggejofbbaaGreatDoor.Bs (kept_blk)
set_option linter.unusedVariables false

theorem first6 (a b c d e f : Bool) : a = false ∨ (a = true ∧ b = false) ∨ (a = true ∧ b = true ∧ c = false) ∨ (a = true ∧ b = true ∧ c = true ∧ d = false) ∨ (a = true ∧ b = true ∧ c = true ∧ d = true ∧ e = false) ∨ (a = true ∧ b = true ∧ c = true ∧ d = true ∧ e = true) := by
  cases a <;> cases b <;> cases c <;> cases d <;> cases e <;> simp

set_option maxRecDepth 100000 in
set_option maxHeartbeats 4000000 in
theorem call_as {p : Pk} {z : Bool} (hz : Hid (callB p = z)) {w : World} : Calls Tryz.prog 75 #[.agg p.arr] w fun e w' => e = .returned (.bool z) ∧ Kept w w' := by
  have hA := At.new w p
  have x7 : p.arr[7]? = some (.int .i64 p.hop) := rfl
  have x8 : p.arr[8]? = some (.int .i64 p.stamp) := rfl
  have x9 : p.arr[9]? = some (.string p.tm) := rfl
  have x10 : p.arr[10]? = some (.int .i64 p.til) := rfl
  have x11 : p.arr[11]? = some (.int .i64 p.prog) := rfl
  have x12 : p.arr[12]? = some (.int .i64 p.rn) := rfl
  have x13 : p.arr[13]? = some (.int .i64 p.ri) := rfl
  have x14 : p.arr[14]? = some (.int .i64 p.rs) := rfl
  obtain ⟨z0, h0⟩ : ∃ z, Hid (decB p = z) := ⟨_, rfl⟩
  obtain ⟨z1, h1⟩ : ∃ z, Hid (decide (1 ≤ p.hop ∧ p.hop ≤ 16) = z) := ⟨_, rfl⟩
  obtain ⟨z2, h2⟩ : ∃ z, Hid (timeB p.stamp = z) := ⟨_, rfl⟩
  obtain ⟨z3, h3⟩ : ∃ z, Hid (timeB p.til = z) := ⟨_, rfl⟩
  obtain ⟨z4, h4⟩ : ∃ z, Hid (decide (0 ≤ p.prog ∧ p.prog ≤ 15) = z) := ⟨_, rfl⟩
  obtain ⟨z5, h5⟩ : ∃ z, Hid (rightB p.rn p.ri p.rs = z) := ⟨_, rfl⟩
  obtain ⟨z6, h6⟩ : ∃ z, Hid (keyB p.pn p.pi p.ps p.pa = z) := ⟨_, rfl⟩
  have hb := Lib.hid (show z = (z0 && (z1 && (z2 && (z3 && (z4 && (z5 && z6)))))) by rw [← hz.out, ← h0.out, ← h1.out, ← h2.out, ← h3.out, ← h4.out, ← h5.out, ← h6.out]; rfl)
  have hd := Tm.dec_any p.tm (w.alloc (.cells p.arr 43 (0, 0)))
  obtain ⟨E, hE⟩ : ∃ E, (Tm.dec p.tm.data.toList).2 = E := ⟨_, rfl⟩
  have hE0 : decide (E = 0) = z0 := by rw [← hE]; exact h0.out
  obtain ⟨T, hT⟩ : ∃ T, (Tm.dec p.tm.data.toList).1 = T := ⟨_, rfl⟩
  rw [hE, hT] at hd
  have HD := Lib.hid hd
  have hE1 : (E != 0) = !z0 := by rw [← hE0]; simp [bne, BEq.beq]
  clear hz hd hE hT hE0
  cases z0
  case false =>
    go_enter Tryz.func75, Tryz.ntmps75
    go_wp2_with (go_at_call 92; refine HD.out.mono ?_; rintro e w' ⟨rfl, rfl⟩)
    go_ret
    exact ⟨ret_bool hb.out.symm, hA.kept⟩
  rcases first6 z1 z2 z3 z4 z5 z6 with rfl | ⟨rfl, rfl⟩ | ⟨rfl, rfl, rfl⟩ | ⟨rfl, rfl, rfl, rfl⟩ | ⟨rfl, rfl, rfl, rfl, rfl⟩ | ⟨rfl, rfl, rfl, rfl, rfl⟩
  case' inr.inr.inr.inr.inr => cases z6
  case inr.inr.inr.inr.inl | inr.inr.inr.inr.inr.false | inr.inr.inr.inr.inr.true =>
    go_enter Tryz.func75, Tryz.ntmps75
    go_wp2_with (first
      | (go_at_call 92; refine HD.out.mono ?_; rintro e w' ⟨rfl, rfl⟩)
      | (go_at_call 78; (first | ((with_reducible refine (within_as h1).mono ?_); rintro e w' ⟨rfl, rfl⟩) | ((with_reducible refine (within_as h4).mono ?_); rintro e w' ⟨rfl, rfl⟩)))
      | (go_at_call 77; (first | ((with_reducible refine (time_as h2).mono ?_); rintro e w' ⟨rfl, rfl⟩) | ((with_reducible refine (time_as h3).mono ?_); rintro e w' ⟨rfl, rfl⟩)))
      | (go_at_call 90; refine (at_as hA (right_as h5)).mono ?_; rintro e u ⟨rfl, hB⟩
         have y15 : u.cell? ⟨w.heap.size, 15, none⟩ = some (.int .i64 p.pn) := hB.c 15
         have y16 : u.cell? ⟨w.heap.size, 16, none⟩ = some (.int .i64 p.pi) := hB.c 16
         have y17 : u.cell? ⟨w.heap.size, 17, none⟩ = some (.int .i64 p.ps) := hB.c 17
         have y18 : u.cell? ⟨w.heap.size, 18, none⟩ = some (.int .i64 p.pa) := hB.c 18)
      | (go_at_call 74; refine (at_as hB (key_as h6)).mono ?_; rintro e v ⟨rfl, hC⟩))
    go_ret
    exact ⟨ret_bool hb.out.symm, by first | exact hC.kept | exact hB.kept⟩
  all_goals
    go_enter Tryz.func75, Tryz.ntmps75
    go_wp2_with (first
      | (go_at_call 92; refine HD.out.mono ?_; rintro e w' ⟨rfl, rfl⟩)
      | (go_at_call 78; (first | ((with_reducible refine (within_as h1).mono ?_); rintro e w' ⟨rfl, rfl⟩) | ((with_reducible refine (within_as h4).mono ?_); rintro e w' ⟨rfl, rfl⟩)))
      | (go_at_call 77; (first | ((with_reducible refine (time_as h2).mono ?_); rintro e w' ⟨rfl, rfl⟩) | ((with_reducible refine (time_as h3).mono ?_); rintro e w' ⟨rfl, rfl⟩))))
    go_ret
    exact ⟨ret_bool hb.out.symm, hA.kept⟩

theorem rest1 {p : Pk} (h : p.kind = 1) : restB p = callB p := by unfold restB; rw [if_pos h]
theorem rest2 {p : Pk} (h : p.kind = 2) : restB p = replyB p := by unfold restB; rw [if_neg (by omega), if_pos h]
theorem rest3 {p : Pk} (h : p.kind = 3) : restB p = true := by unfold restB; rw [if_neg (by omega), if_neg (by omega), if_pos h]
theorem rest4 {p : Pk} (h : p.kind = 4) : restB p = timeB p.til := by unfold restB; rw [if_neg (by omega), if_neg (by omega), if_neg (by omega), if_pos h]
theorem rest5 {p : Pk} (h : p.kind = 5) : restB p = decide (-1 ≤ p.delay ∧ p.delay ≤ 1125899906842624) := by unfold restB; rw [if_neg (by omega), if_neg (by omega), if_neg (by omega), if_neg (by omega), if_pos h]
theorem rest0 {p : Pk} (h : p.kind ≠ 1 ∧ p.kind ≠ 2 ∧ p.kind ≠ 3 ∧ p.kind ≠ 4 ∧ p.kind ≠ 5) : restB p = false := by unfold restB; rw [if_neg h.1, if_neg h.2.1, if_neg h.2.2.1, if_neg h.2.2.2.1, if_neg h.2.2.2.2]

set_option maxRecDepth 100000 in
set_option maxHeartbeats 4000000 in
theorem rest_as {p : Pk} {z : Bool} (hz : Hid (restB p = z)) {w : World} : Calls Tryz.prog 54 #[.agg p.arr] w fun e w' => e = .returned (.bool z) ∧ Kept w w' := by
  have hA := At.new w p
  have x10 : p.arr[10]? = some (.int .i64 p.til) := rfl
  have x22 : p.arr[22]? = some (.int .i64 p.delay) := rfl
  rcases kinds p.kind with h | h | h | h | h | h
  · have x0 : p.arr[0]? = some (.int .i64 1) := by rw [← h]; rfl
    have hc : Hid (callB p = z) := Lib.hid (by rw [← rest1 h]; exact hz.out)
    clear h
    go_enter Tryz.func54, Tryz.ntmps54
    go_wp2_with (first | (refine wpList_load_row rfl 43 (.tmp 1) rfl w.heap.size rfl 43 p.arr (0, 0) _ (blk_new w _) Tryz.underlying43 rfl info_pk ?_) | (go_at_call 75; refine (at_as hA (call_as hc)).mono ?_; rintro e u ⟨rfl, hB⟩))
    go_ret
    exact ⟨rfl, hB.kept⟩
  · have x0 : p.arr[0]? = some (.int .i64 2) := by rw [← h]; rfl
    have hc : Hid (replyB p = z) := Lib.hid (by rw [← rest2 h]; exact hz.out)
    clear h
    go_enter Tryz.func54, Tryz.ntmps54
    go_wp2_with (first | (refine wpList_load_row rfl 43 (.tmp 1) rfl w.heap.size rfl 43 p.arr (0, 0) _ (blk_new w _) Tryz.underlying43 rfl info_pk ?_) | (go_at_call 76; refine (at_as hA (reply_as hc)).mono ?_; rintro e u ⟨rfl, hB⟩))
    go_ret
    exact ⟨rfl, hB.kept⟩
  · have x0 : p.arr[0]? = some (.int .i64 3) := by rw [← h]; rfl
    have hc : Hid (true = z) := Lib.hid (by rw [← rest3 h]; exact hz.out)
    clear h
    go_enter Tryz.func54, Tryz.ntmps54
    go_wp2_with fail
    go_ret
    exact ⟨ret_bool hc.out, hA.kept⟩
  · have x0 : p.arr[0]? = some (.int .i64 4) := by rw [← h]; rfl
    have hc : Hid (timeB p.til = z) := Lib.hid (by rw [← rest4 h]; exact hz.out)
    clear h
    go_enter Tryz.func54, Tryz.ntmps54
    go_wp2_with (go_at_call 77; refine (time_as hc).mono ?_; rintro e u ⟨rfl, rfl⟩)
    go_ret
    exact ⟨rfl, hA.kept⟩
  · have x0 : p.arr[0]? = some (.int .i64 5) := by rw [← h]; rfl
    have hc : Hid (decide (-1 ≤ p.delay ∧ p.delay ≤ 1125899906842624) = z) := Lib.hid (by rw [← rest5 h]; exact hz.out)
    clear h
    go_enter Tryz.func54, Tryz.ntmps54
    go_wp2_with (go_at_call 78; refine (within_as hc).mono ?_; rintro e u ⟨rfl, rfl⟩)
    go_ret
    exact ⟨rfl, hA.kept⟩
  · have x0 : p.arr[0]? = some (.int .i64 p.kind) := rfl
    have hc : Hid (false = z) := Lib.hid (by rw [← rest0 h]; exact hz.out)
    have e1 : (p.kind == 1) = false := by simpa using h.1
    have e2 : (p.kind == 2) = false := by simpa using h.2.1
    have e3 : (p.kind == 3) = false := by simpa using h.2.2.1
    have e4 : (p.kind == 4) = false := by simpa using h.2.2.2.1
    have e5 : (p.kind == 5) = false := by simpa using h.2.2.2.2
    clear h
    go_enter Tryz.func54, Tryz.ntmps54
    go_wp2_with fail
    go_ret
    exact ⟨ret_bool hc.out, hA.kept⟩

end Go.Proofs.YtncdiggejofbbaaGreatDoor.Pk

namespace Go.Proofs.YtncdiggejofbbaaGreatDoor.Pk
open Go.RowKit Go.Sort St BsM IdM PkM
open Go.Proofs.YtncdiggejofbbaaGreatDoor.Id
open Go.Proofs.YtncdiggejofbbaaGreatDoor.Bs (kept_blk)
set_option linter.unusedVariables false

theorem grow_blk {W : World} {b : Nat} {o : Obj} (h : W.heap[b]? = some o) (d : Nat) (os : Array Obj) : (grow (redrawn W d) os).heap[b]? = some o :=
  kept_blk (below_regrown W d os) h
/-- a row read whole, in a region whose calls make memory -/
theorem quiet_row {a : Act} {o : Oper} {C : World → Prop} {K : Act → Prop} (ty : TypeId) (x : Operand) (ho : o.op = .load ty x) (g : Nat) (hx : a.eval x = .pointer (some ⟨g, 0, none⟩)) (cs : Array Value)
    (hl : ∀ w, C w → (loadVar ty ⟨g, 0, none⟩).run Tryz.prog w = .ok (.agg cs) w) (hk : K (a.put o.dst (.agg cs))) : o.quiet Tryz.prog a C K := by
  refine ⟨.agg cs, fun w hw => ?_, hk⟩
  unfold Oper.quietAt execOp
  simp only [ho, hx, Instr.loadAt, Instr.sureAddr, Sem.run_bind, Sem.run_pure, Result.andThen_ok, hl w hw]
  exact ⟨rfl, rfl⟩
theorem load_regrown {W : World} {b : Nat} {p : Pk} (hb : W.heap[b]? = some (.cells p.arr 43 (0, 0))) :
    Hid (∀ w, (∃ q : Regrown, w = grow (redrawn W q.d) q.os) → (loadVar 43 ⟨b, 0, none⟩).run Tryz.prog w = .ok (.agg p.arr) w) :=
  fun w ⟨q, hq⟩ => by subst hq; exact run_loadVar_row _ b _ _ p.arr (0, 0) _ (grow_blk hb q.d q.os) Tryz.underlying43 rfl info_pk

theorem first3 (a b : Bool) : a = false ∨ (a = true ∧ b = false) ∨ (a = true ∧ b = true) := by cases a <;> cases b <;> simp

set_option maxRecDepth 100000 in
set_option maxHeartbeats 2000000 in
theorem okp_as {p : Pk} {z : Bool} (hz : Hid (okB p = z)) {w : World} : Calls Tryz.prog 33 #[.agg p.arr] w fun e w' => e = .returned (.bool z) ∧ Kept w w' := by
  obtain ⟨W, hW, hA⟩ := boxp w p
  have HW := Lib.hid hW
  have hl := load_regrown hA.blk
  obtain ⟨z1, h1⟩ : ∃ z, sameB p (clean p) = z := ⟨_, rfl⟩
  obtain ⟨z2, h2⟩ : ∃ z, Hid (headB p = z) := ⟨_, rfl⟩
  obtain ⟨z3, h3⟩ : ∃ z, Hid (restB p = z) := ⟨_, rfl⟩
  have hb := Lib.hid (show z = (z1 && (z2 && z3)) by rw [← hz.out, ← h1, ← h2.out, ← h3.out]; rfl)
  have he := eql_run p (clean p)
  rw [h1] at he
  have Q1 := quiet_at hA.kept (fun x hx => clean_any p x)
  have Q2 := quiet_at hA.kept (fun x hx => head_as h2 (w := x))
  have Q3 := quiet_at hA.kept (fun x hx => rest_as h3 (w := x))
  have HA := Lib.hid hA
  clear hW hz h1 h2 h3 hA
  rcases first3 z1 z2 with rfl | ⟨rfl, rfl⟩ | ⟨rfl, rfl⟩
  case' inr.inr => cases z3
  all_goals
    go_enter Tryz.func33, Tryz.ntmps33
    go_wp2_with fail
    rw [HW.out]
    refine wp_region_quiet_below (by kernel_rfl) (by kernel_rfl) ?_
    repeat (first | (go_big_quiet_want; refine quiet_row 43 (.tmp 1) rfl w.heap.size rfl p.arr hl.out ?_; simp only [Act.put, List.setIfInBounds_toArray, List.set_cons_succ, List.set_cons_zero]; go_big_quiet_on) | go_big_quiet_step (first | (with_reducible exact Q1.out _) | (with_reducible exact Q2.out _) | (with_reducible exact Q3.out _)))
    refine wpQuiet_nil ?_
    intro _ hw'
    obtain ⟨⟨dq, osq⟩, hw''⟩ := hw'
    subst hw''
    go_wp2_with fail
    go_ret
    exact ⟨ret_bool hb.out.symm, HA.out.kept.trans (below_regrown _ dq osq)⟩

end Go.Proofs.YtncdiggejofbbaaGreatDoor.Pk
