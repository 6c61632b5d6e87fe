/- Package packet: which packets may be. -/
import Derived.Test.YtpgfaklnbehmhaaDoorPk2
import Derived.Test.YtpgfaklnbehmhaaDoorId
import Derived.Test.YtpgfaklnbehmhaaDoorTm
import Derived.Test.YtpgfaklnbehmhaaDoorCd
namespace Go.Proofs.YtpgfaklnbehmhaaDoor.Pk
open Go.RowKit Go.Sort St BsM IdM PkM
open Go.Proofs.YtpgfaklnbehmhaaDoor.Id
open Go.Proofs.YtpgfaklnbehmhaaDoor.Bs (kept_blk)
set_option linter.unusedVariables false

/-- where a call on a packet in a block of its own stands -/
structure At (w : World) (p : Pk) (u : World) : Prop where
  kept : Kept w u
  blk : u.heap[w.heap.size]? = some (.cells p.arr 27 (0, 0))
theorem At.go {w : World} {p : Pk} {u v : World} (h : At w p u) (k : Kept u v) : At w p v := ⟨h.kept.trans k, kept_blk k h.blk⟩
theorem At.new (w : World) (p : Pk) : At w p (w.alloc (.cells p.arr 27 (0, 0))) := ⟨Kept.one _ _, blk_new _ _⟩
theorem At.c {w : World} {p : Pk} {u : World} (h : At w p u) (k : Nat) : u.cell? ⟨w.heap.size, k, none⟩ = p.arr[k]? := blk_cell h.blk k
theorem boxp (w : World) (p : Pk) : ∃ W : World, w.alloc (.cells p.arr 27 (0, 0)) = W ∧ At w p W := ⟨_, rfl, At.new w p⟩
theorem at_as {w : World} {p : Pk} {f : FuncId} {args : Array Value} {v : Value} {u : World} (h : At w p u) (k : Calls Tryd.prog f args u fun e x => e = .returned v ∧ Kept u x) : Calls Tryd.prog f args u fun e x => e = .returned v ∧ At w p x :=
  k.mono fun _ _ ⟨he, hk⟩ => ⟨he, h.go hk⟩

theorem within_as {n a b : Int} {z : Bool} (hz : Hid (decide (a ≤ n ∧ n ≤ b) = z)) {w : World} :
    Calls Tryd.prog 44 #[.int .i64 n, .int .i64 a, .int .i64 b] w fun e w' => e = .returned (.bool z) ∧ w = w' := by
  by_cases h1 : a ≤ n
  · by_cases h2 : n ≤ b
    · have hz' := Lib.hid (show z = true by rw [← hz.out]; simp [h1, h2])
      go_enter Tryd.func44, Tryd.ntmps44
      go_wp2_with fail
      go_ret
      exact ⟨ret_bool hz'.out.symm, rfl⟩
    · have hz' := Lib.hid (show z = false by rw [← hz.out]; simp [h2])
      go_enter Tryd.func44, Tryd.ntmps44
      go_wp2_with fail
      go_ret
      exact ⟨ret_bool hz'.out.symm, rfl⟩
  · have hz' := Lib.hid (show z = false by rw [← hz.out]; simp [h1])
    go_enter Tryd.func44, Tryd.ntmps44
    go_wp2_with fail
    go_ret
    exact ⟨ret_bool hz'.out.symm, rfl⟩
theorem node_as {n : Int} {z : Bool} (hz : Hid (nodeB n = z)) {w : World} : Calls Tryd.prog 39 #[.int .i64 n] w fun e w' => e = .returned (.bool z) ∧ w = w' := by
  have h : Hid (decide (0 ≤ n ∧ n ≤ 63) = z) := hz
  clear hz
  go_enter Tryd.func39, Tryd.ntmps39
  go_wp2_with (go_at_call 44; refine (within_as h).mono ?_; rintro e w' ⟨rfl, rfl⟩)
  go_ret
  exact ⟨rfl, rfl⟩
theorem time_as {n : Int} {z : Bool} (hz : Hid (timeB n = z)) {w : World} : Calls Tryd.prog 43 #[.int .i64 n] w fun e w' => e = .returned (.bool z) ∧ w = w' := by
  have h : Hid (decide (0 ≤ n ∧ n ≤ 1125899906842624) = z) := hz
  clear hz
  go_enter Tryd.func43, Tryd.ntmps43
  go_wp2_with (go_at_call 44; refine (within_as h).mono ?_; rintro e w' ⟨rfl, rfl⟩)
  go_ret
  exact ⟨rfl, rfl⟩

set_option maxRecDepth 100000 in
set_option maxHeartbeats 1000000 in
theorem head_as {p : Pk} {z : Bool} (hz : Hid (headB p = z)) {w : World} : Calls Tryd.prog 21 #[.agg p.arr] w fun e w' => e = .returned (.bool z) ∧ Kept w w' := by
  have hA := At.new w p
  have x1 : p.arr[1]? = some (.int .i64 p.fr) := rfl
  have x2 : p.arr[2]? = some (.int .i64 p.to) := rfl
  have x3 : p.arr[3]? = some (.int .i64 p.kn) := rfl
  have x4 : p.arr[4]? = some (.int .i64 p.ki) := rfl
  have x5 : p.arr[5]? = some (.int .i64 p.ks) := rfl
  have x6 : p.arr[6]? = some (.int .i64 p.ka) := rfl
  obtain ⟨z1, h1⟩ : ∃ z, Hid (nodeB p.fr = z) := ⟨_, rfl⟩
  obtain ⟨z2, h2⟩ : ∃ z, Hid (nodeB p.to = z) := ⟨_, rfl⟩
  obtain ⟨z3, h3⟩ : ∃ z, Hid (keyB p.kn p.ki p.ks p.ka = z) := ⟨_, rfl⟩
  obtain ⟨z4, h4⟩ : ∃ z, decide (1 ≤ p.ka) = z := ⟨_, rfl⟩
  have hb := Lib.hid (show z = (z1 && (z2 && (z3 && z4))) by rw [← hz.out, ← h1.out, ← h2.out, ← h3.out, ← h4]; rfl)
  clear hz
  cases z1
  case false =>
    clear h4
    go_enter Tryd.func21, Tryd.ntmps21
    go_wp2_with (go_at_call 39; refine (node_as h1).mono ?_; rintro e w' ⟨rfl, rfl⟩)
    go_ret
    exact ⟨ret_bool hb.out.symm, hA.kept⟩
  cases z2
  case true.false =>
    clear h4
    go_enter Tryd.func21, Tryd.ntmps21
    go_wp2_with (go_at_call 39; (first | ((with_reducible refine (node_as h1).mono ?_); rintro e w' ⟨rfl, rfl⟩) | ((with_reducible refine (node_as h2).mono ?_); rintro e w' ⟨rfl, rfl⟩)))
    go_ret
    exact ⟨ret_bool hb.out.symm, hA.kept⟩
  cases z3
  case true.true.false =>
    clear h4
    go_enter Tryd.func21, Tryd.ntmps21
    go_wp2_with (first
      | (go_at_call 39; (first | ((with_reducible refine (node_as h1).mono ?_); rintro e w' ⟨rfl, rfl⟩) | ((with_reducible refine (node_as h2).mono ?_); rintro e w' ⟨rfl, rfl⟩)))
      | (go_at_call 40; refine (at_as hA (key_as h3)).mono ?_; rintro e u ⟨rfl, hB⟩))
    go_ret
    exact ⟨ret_bool hb.out.symm, hB.kept⟩
  all_goals
    cases z4
    all_goals
      go_enter Tryd.func21, Tryd.ntmps21
      go_wp2_with (first
        | (go_at_call 39; (first | ((with_reducible refine (node_as h1).mono ?_); rintro e w' ⟨rfl, rfl⟩) | ((with_reducible refine (node_as h2).mono ?_); rintro e w' ⟨rfl, rfl⟩)))
        | (go_at_call 40; refine (at_as hA (key_as h3)).mono ?_; rintro e u ⟨rfl, hB⟩; have y6 : u.cell? ⟨w.heap.size, 6, none⟩ = some (.int .i64 p.ka) := hB.c 6))
      go_ret
      exact ⟨ret_bool (by rw [hb.out]; first | rfl | (simp only [h4]; rfl)), hB.kept⟩

set_option maxRecDepth 100000 in
set_option maxHeartbeats 1000000 in
theorem reply_as {p : Pk} {z : Bool} (hz : Hid (replyB p = z)) {w : World} : Calls Tryd.prog 42 #[.agg p.arr] w fun e w' => e = .returned (.bool z) ∧ Kept w w' := by
  have hA := At.new w p
  have x19 : p.arr[19]? = some (.int .i64 p.code) := rfl
  have x20 : p.arr[20]? = some (.int .i64 p.value) := rfl
  cases hm : p.more
  · have x21 : p.arr[21]? = some (.bool false) := by rw [← hm]; rfl
    obtain ⟨z1, h1⟩ : ∃ z, Hid (Cd.right p.code = z) := ⟨_, rfl⟩
    obtain ⟨z2, h2⟩ : ∃ z, Hid (decide (0 ≤ p.value ∧ p.value ≤ 2147483647) = z) := ⟨_, rfl⟩
    have hb := Lib.hid (show z = (z1 && z2) by rw [← hz.out, ← h1.out, ← h2.out]; unfold replyB; rw [hm]; rfl)
    have hr := Cd.right_any p.code (w.alloc (.cells p.arr 27 (0, 0)))
    rw [h1.out] at hr
    have HR := Lib.hid hr
    clear hz hm hr
    cases z1 <;> cases z2
    all_goals
      go_enter Tryd.func42, Tryd.ntmps42
      go_wp2_with (first | (go_at_call 62; refine HR.out.mono ?_; rintro e w' ⟨rfl, rfl⟩) | (go_at_call 44; refine (within_as h2).mono ?_; rintro e w' ⟨rfl, rfl⟩))
      go_ret
      exact ⟨ret_bool hb.out.symm, hA.kept⟩
  · have x21 : p.arr[21]? = some (.bool true) := by rw [← hm]; rfl
    obtain ⟨z1, h1⟩ : ∃ z, (p.code == 0) = z := ⟨_, rfl⟩
    obtain ⟨z2, h2⟩ : ∃ z, (p.value == 0) = z := ⟨_, rfl⟩
    have hb := Lib.hid (show z = (z1 && z2) by rw [← hz.out, ← h1, ← h2]; unfold replyB; rw [hm]; rfl)
    clear hz hm
    cases z1 <;> cases z2
    all_goals
      go_enter Tryd.func42, Tryd.ntmps42
      go_wp2_with fail
      go_ret
      exact ⟨ret_bool (by first | exact hb.out.symm | (rw [hb.out]; exact h1) | (rw [hb.out]; exact h2)), hA.kept⟩

end Go.Proofs.YtpgfaklnbehmhaaDoor.Pk
