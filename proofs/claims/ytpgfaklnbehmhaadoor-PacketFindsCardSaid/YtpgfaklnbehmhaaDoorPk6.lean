/- Which packets may be, as the document says it. -/
import Derived.Test.YtpgfaklnbehmhaaDoorPk5
import Derived.Test.YtpgfaklnbehmhaaDoorTm2
namespace Go.Proofs.YtpgfaklnbehmhaaDoor.Pk
open Go.RowKit Go.Sort St BsM IdM PkM
open Go.Proofs.YtpgfaklnbehmhaaDoor.Id
open Go.Proofs.YtpgfaklnbehmhaaDoor.Bs (kept_blk)
set_option linter.unusedVariables false

theorem rtime_as {n : Int} {z : Bool} (hz : Hid (timeB n = z)) {w : World} : Calls Tryd.prog 18 #[.int .i64 n] w fun e w' => e = .returned (.bool z) ∧ w = w' := by
  by_cases h1 : 0 ≤ n
  · by_cases h2 : n ≤ 1125899906842624
    · have hz' := Lib.hid (show z = true by rw [← hz.out]; simp [timeB, h1, h2])
      go_enter Tryd.func18, Tryd.ntmps18
      go_wp2_with fail
      go_ret
      exact ⟨ret_bool hz'.out.symm, rfl⟩
    · have hz' := Lib.hid (show z = false by rw [← hz.out]; simp [timeB, h2])
      go_enter Tryd.func18, Tryd.ntmps18
      go_wp2_with fail
      go_ret
      exact ⟨ret_bool hz'.out.symm, rfl⟩
  · have hz' := Lib.hid (show z = false by rw [← hz.out]; simp [timeB, h1])
    go_enter Tryd.func18, Tryd.ntmps18
    go_wp2_with fail
    go_ret
    exact ⟨ret_bool hz'.out.symm, rfl⟩

theorem first7 (a b c d e f g : Bool) : a = true ∨ (a = false ∧ b = true) ∨ (a = false ∧ b = false ∧ c = true) ∨ (a = false ∧ b = false ∧ c = false ∧ d = true) ∨ (a = false ∧ b = false ∧ c = false ∧ d = false ∧ e = true) ∨
    (a = false ∧ b = false ∧ c = false ∧ d = false ∧ e = false ∧ f = true) ∨ (a = false ∧ b = false ∧ c = false ∧ d = false ∧ e = false ∧ f = false ∧ g = true) ∨ (a = false ∧ b = false ∧ c = false ∧ d = false ∧ e = false ∧ f = false ∧ g = false) := by
  cases a <;> cases b <;> cases c <;> cases d <;> cases e <;> cases f <;> cases g <;> simp
theorem first5 (a b c d e : Bool) : a = true ∨ (a = false ∧ b = true) ∨ (a = false ∧ b = false ∧ c = true) ∨ (a = false ∧ b = false ∧ c = false ∧ d = true) ∨ (a = false ∧ b = false ∧ c = false ∧ d = false ∧ e = true) ∨ (a = false ∧ b = false ∧ c = false ∧ d = false ∧ e = false) := by
  cases a <;> cases b <;> cases c <;> cases d <;> cases e <;> simp
theorem two_dec (n a b : Int) : decide (a ≤ n ∧ n ≤ b) = (!decide (n < a) && !decide (b < n)) := by
  by_cases h1 : n < a <;> by_cases h2 : b < n <;> simp [h1, h2] <;> omega

/-- what the document asks of every kind, and of each -/
theorem rok_head {p : Pk} {z b1 b2 b3 b4 z5 b6 z7 : Bool} (hz : okB p = z) (h1 : decide (p.fr < 0) = b1) (h2 : decide (63 < p.fr) = b2) (h3 : decide (p.to < 0) = b3) (h4 : decide (63 < p.to) = b4) (h5 : keyB p.kn p.ki p.ks p.ka = z5) (h6 : decide (p.ka < 1) = b6) (h7 : sameB p (clean p) = z7) :
    z = (z7 && (((!b1 && !b2) && ((!b3 && !b4) && (z5 && !b6))) && restB p)) := by
  have e6 : decide (1 ≤ p.ka) = !b6 := by rw [← h6]; by_cases h : p.ka < 1 <;> simp [h] <;> omega
  rw [← hz]; unfold okB headB nodeB
  rw [two_dec, two_dec, h1, h2, h3, h4, h5, h7, e6]

set_option maxRecDepth 100000 in
set_option maxHeartbeats 8000000 in
theorem rok_no {p : Pk} {z b1 b2 b3 b4 z5 b6 z7 : Bool} (h1 : decide (p.fr < 0) = b1) (h2 : decide (63 < p.fr) = b2) (h3 : decide (p.to < 0) = b3) (h4 : decide (63 < p.to) = b4) (h5 : Hid (keyB p.kn p.ki p.ks p.ka = z5)) (h6 : decide (p.ka < 1) = b6)
    (h7 : Hid (sameB p (clean p) = z7)) (hne : ¬ (b1 = false ∧ b2 = false ∧ b3 = false ∧ b4 = false ∧ z5 = true ∧ b6 = false ∧ z7 = true)) {w : World} : Calls Tryd.prog 7 #[.agg p.arr] w fun e w' => e = .returned (.bool false) ∧ Kept w w' := by
  obtain ⟨W, hW, hA⟩ := boxp w p
  have HW := Lib.hid hW
  have hl := load_regrown hA.blk
  have x1 := cell_regrown (show W.cell? ⟨w.heap.size, 1, none⟩ = some (.int .i64 p.fr) from hA.c 1)
  have x2 := cell_regrown (show W.cell? ⟨w.heap.size, 2, none⟩ = some (.int .i64 p.to) from hA.c 2)
  have x3 := cell_regrown (show W.cell? ⟨w.heap.size, 3, none⟩ = some (.int .i64 p.kn) from hA.c 3)
  have x4 := cell_regrown (show W.cell? ⟨w.heap.size, 4, none⟩ = some (.int .i64 p.ki) from hA.c 4)
  have x5 := cell_regrown (show W.cell? ⟨w.heap.size, 5, none⟩ = some (.int .i64 p.ks) from hA.c 5)
  have x6 := cell_regrown (show W.cell? ⟨w.heap.size, 6, none⟩ = some (.int .i64 p.ka) from hA.c 6)
  have he := neq_run (clean p) p
  rw [same_comm, h7.out] at he
  have Q1 := quiet_at hA.kept (fun x hx => rclean_any p x)
  have Q2 := quiet_at hA.kept (fun x hx => rkey_as h5 (w := x))
  have HA := Lib.hid hA
  clear hW hA h5 h7
  rcases first7 b1 b2 b3 b4 (!z5) b6 (!z7) with rfl | ⟨rfl, rfl⟩ | ⟨rfl, rfl, rfl⟩ | ⟨rfl, rfl, rfl, rfl⟩ | ⟨rfl, rfl, rfl, rfl, h⟩ | ⟨rfl, rfl, rfl, rfl, h, rfl⟩ | ⟨rfl, rfl, rfl, rfl, h, rfl, h'⟩ | ⟨rfl, rfl, rfl, rfl, h, rfl, h'⟩
  case inr.inr.inr.inr.inr.inr.inr => exact absurd ⟨rfl, rfl, rfl, rfl, by simpa using h, rfl, by simpa using h'⟩ hne
  case' inr.inr.inr.inr.inl => (obtain rfl : z5 = false := by simpa using h); clear h
  case' inr.inr.inr.inr.inr.inl => (obtain rfl : z5 = true := by simpa using h); clear h
  case' inr.inr.inr.inr.inr.inr.inl => (obtain rfl : z5 = true := by simpa using h); (obtain rfl : z7 = false := by simpa using h'); clear h h'
  all_goals
    clear hne
    go_enter Tryd.func7, Tryd.ntmps7
    go_wp2_with fail
    rw [HW.out]
    refine wp_region_quiet_below (by kernel_rfl) (by kernel_rfl) ?_
    repeat (first | (go_big_quiet_want; refine quiet_row 27 (.tmp 1) rfl w.heap.size rfl p.arr hl.out ?_; simp only [Act.put, List.setIfInBounds_toArray, List.set_cons_succ, List.set_cons_zero]; go_big_quiet_on) | go_big_quiet_step (first | (with_reducible exact Q1.out _) | (with_reducible exact Q2.out _)))
    refine wpQuiet_nil ?_
    intro _ hw'
    obtain ⟨⟨dq, osq⟩, hw''⟩ := hw'
    subst hw''
    go_wp2_with fail
    go_ret
    exact ⟨rfl, HA.out.kept.trans (below_regrown _ dq osq)⟩

end Go.Proofs.YtpgfaklnbehmhaaDoor.Pk
