/- The law of layer 20: it is tried again only with a code that may be, not taken, with attempts and tokens and time left. -/
import Derived.Test.YtlngcaonhpiciaaPo3
namespace Go.Proofs.Ytlngcaonhpiciaa.Po
open Go.RowKit Go.Sort St Ad
open Go.Proofs.Ytlngcaonhpiciaa.Id (quiet_at boxed1)
set_option linter.unusedVariables false

theorem ready_lo (c : Cf) (f : Ft) : 0 ≤ ready c f := Tk.add_lo _ _
theorem ready_hi (c : Cf) (f : Ft) : ready c f ≤ 1125899906842624 := Tk.add_hi _ _
/-- the ways that it goes -/
theorem dec_ways (c : Cf) (f : Ft) :
    (∃ n, 1 ≤ n ∧ n ≤ 6 ∧ dec c f = (n, 0)) ∨
    (dec c f = (0, ready c f) ∧ (f.code == 14 || f.code == 8) = true ∧ f.com = false ∧ f.att < c.attempts ∧ f.push ≠ -1 ∧ Th.may f.have_ c.tokens = true ∧ Bu.enough f.due (ready c f) c.least = true) := by
  rcases Bool.eq_false_or_eq_true (f.code == 14 || f.code == 8) with h1 | h1
  rotate_left
  · exact .inl ⟨1, by omega, by omega, dec_bad h1⟩
  rcases Bool.eq_false_or_eq_true f.com with h2 | h2
  · exact .inl ⟨2, by omega, by omega, dec_taken h1 h2⟩
  by_cases h3 : c.attempts ≤ f.att
  · exact .inl ⟨3, by omega, by omega, dec_spent h1 h2 h3⟩
  by_cases h4 : f.push = -1
  · exact .inl ⟨4, by omega, by omega, dec_push h1 h2 h3 h4⟩
  rcases Bool.eq_false_or_eq_true (Th.may f.have_ c.tokens) with h5 | h5
  rotate_left
  · exact .inl ⟨5, by omega, by omega, dec_thr h1 h2 h3 h4 h5⟩
  rcases Bool.eq_false_or_eq_true (Bu.enough f.due (ready c f) c.least) with h6 | h6
  rotate_left
  · exact .inl ⟨6, by omega, by omega, dec_late h1 h2 h3 h4 h5 h6⟩
  exact .inr ⟨dec_again h1 h2 h3 h4 h5 h6, h1, h2, by omega, h4, h5, h6⟩
/-- what is left then -/
theorem left_then {d z l : Int} (h0 : 0 ≤ z) (h1 : z ≤ 1125899906842624) (h : Bu.enough d z l = true) : z < Tk.clamp d ∧ Tk.clamp l ≤ Tk.clamp d - z := by
  unfold Bu.enough at h
  have h2 := of_decide_eq_true h
  have h3 := Tk.clamp_id z h0 h1
  unfold Tk.sub at h2
  rw [h3] at h2
  omega
/-- more than half of the tokens -/
theorem more_half {h t : Int} (hm : Th.may h t = true) : 0 < h ∧ (h < Th.full t → Th.full t < 2 * h) := by
  unfold Th.may at hm
  have h2 := of_decide_eq_true hm
  have h3 := Th.full_lo t
  unfold Th.held at h2
  constructor <;> omega

set_option maxRecDepth 100000 in
set_option maxHeartbeats 4000000 in
theorem again_any (c : Cf) (f : Ft) (hl : f.Lim) (w : World) : Calls Try.prog 4 #[.agg c.arr, .agg f.arr] w fun e w' => e = .returned (.bool true) ∧ Kept w w' := by
  have hf := hl.2.1.2
  obtain ⟨W, hW, hI⟩ := In.new w 26 c f
  have HW := Lib.hid hW
  have HI := Lib.hid hI
  have q0 : ∀ u, Calls Try.prog 8 #[.agg f.arr] u fun e w' => e = .returned (.agg f.arr) ∧ Kept u w' := fun u => mine_any f u
  have lc := loadc_regrown hI.bc
  have lf := loadf_regrown hI.bf
  have Q0 := quiet_at (Kept.refl W) (fun x hx => q0 x)
  clear q0
  rcases dec_ways c f with ⟨n, hn0, hn1, hd⟩ | ⟨hd, h1, h2, h3, h4, h5, h6⟩
  · have q1 : ∀ u, Calls Try.prog 7 #[.agg c.arr, .agg f.arr] u fun e w' => e = .returned (.tuple #[.int .i64 n, .int .i64 0]) ∧ Kept u w' := fun u => by have := dec_any c f hf u; rwa [hd] at this
    have Q1 := quiet_at (Kept.refl W) (fun x hx => q1 x)
    have hn : (n != 0) = true := by simp; omega
    clear hW hI hd q1 hl hf
    go_enter Try.func4, Try.ntmps4
    go_upto_region 1 with fail
    rw [HW.out]
    refine wp_region_quiet_below (by kernel_rfl) (by kernel_rfl) ?_
    repeat (first
      | (go_big_quiet_want; refine quiet_row 24 (.tmp 2) rfl w.heap.size rfl c.arr lc.out ?_; simp only [Act.put, List.setIfInBounds_toArray, List.set_cons_succ, List.set_cons_zero]; go_big_quiet_on)
      | (go_big_quiet_want; refine quiet_row 26 (.tmp 3) rfl (w.heap.size + 1) rfl f.arr lf.out ?_; simp only [Act.put, List.setIfInBounds_toArray, List.set_cons_succ, List.set_cons_zero]; go_big_quiet_on)
      | go_big_quiet_step (first | (with_reducible exact Q0.out _) | (with_reducible exact Q1.out _)))
    refine wpQuiet_nil ?_
    intro _ hw'
    obtain ⟨⟨dq, osq⟩, hw''⟩ := hw'
    subst hw''
    have HJ := Lib.hid (HI.out.go (below_regrown W dq osq)).kept
    obtain ⟨V, hV⟩ : ∃ V, grow (redrawn W dq) osq = V := ⟨_, rfl⟩
    rw [hV] at HJ ⊢
    clear hV lc lf Q0 Q1
    go_wp2_with (go_at_call 14; refine (awake_any _).mono ?_; rintro e u3 ⟨rfl, hk3⟩)
    go_ret
    exact ⟨rfl, HJ.out.trans hk3⟩
  · have q1 : ∀ u, Calls Try.prog 7 #[.agg c.arr, .agg f.arr] u fun e w' => e = .returned (.tuple #[.int .i64 0, .int .i64 (ready c f)]) ∧ Kept u w' := fun u => by have := dec_any c f hf u; rwa [hd] at this
    have hz0 := ready_lo c f
    have hz1 := ready_hi c f
    have hnow : Tk.clamp f.now ≤ ready c f := Tk.add_ge _ _
    have hpush := @wait_push c f
    obtain ⟨z, hz⟩ : ∃ z, ready c f = z := ⟨_, rfl⟩
    rw [hz] at q1 hz0 hz1 hnow h6 hpush
    have Q1 := quiet_at (Kept.refl W) (fun x hx => q1 x)
    obtain ⟨hl1, hl2⟩ := left_then hz0 hz1 h6
    obtain ⟨hm0, hm1⟩ := more_half h5
    have t0 := Th.full_lo c.tokens
    have t1 := Th.full_hi c.tokens
    obtain ⟨t, ht⟩ : ∃ t, Th.full c.tokens = t := ⟨_, rfl⟩
    rw [ht] at hm1 t0 t1
    have C2 := Lib.hid (show ∀ u, Calls Try.prog 15 #[.int .i64 c.tokens] u fun e w' => e = .returned (.int .i64 t) ∧ u = w' from fun u => by rw [← ht]; exact Th.rfull_any _ u)
    obtain ⟨tn, htn⟩ : ∃ t, Tk.clamp f.now = t := ⟨_, rfl⟩
    obtain ⟨td, htd⟩ : ∃ t, Tk.clamp f.due = t := ⟨_, rfl⟩
    obtain ⟨tl, htl⟩ : ∃ t, Tk.clamp c.least = t := ⟨_, rfl⟩
    have td1 : td ≤ 1125899906842624 := htd ▸ Tk.clamp_hi _
    have q3 := show ∀ u, Calls Try.prog 17 #[.int .i64 f.now] u fun e w' => e = .returned (.int .i64 tn) ∧ u = w' from fun u => by rw [← htn]; exact Tk.rclamp_any _ u
    have q4 := show ∀ u, Calls Try.prog 17 #[.int .i64 f.due] u fun e w' => e = .returned (.int .i64 td) ∧ u = w' from fun u => by rw [← htd]; exact Tk.rclamp_any _ u
    have q5 := show ∀ u, Calls Try.prog 17 #[.int .i64 c.least] u fun e w' => e = .returned (.int .i64 tl) ∧ u = w' from fun u => by rw [← htl]; exact Tk.rclamp_any _ u
    rw [htn] at hnow
    rw [htd, htl] at hl2
    rw [htd] at hl1
    have hh := hl.2.2.2.1
    clear hW hI hd hl hf hz h6 h5 ht htn htd htl
    go_enter Try.func4, Try.ntmps4
    go_upto_region 1 with fail
    rw [HW.out]
    refine wp_region_quiet_below (by kernel_rfl) (by kernel_rfl) ?_
    repeat (first
      | (go_big_quiet_want; refine quiet_row 24 (.tmp 2) rfl w.heap.size rfl c.arr lc.out ?_; simp only [Act.put, List.setIfInBounds_toArray, List.set_cons_succ, List.set_cons_zero]; go_big_quiet_on)
      | (go_big_quiet_want; refine quiet_row 26 (.tmp 3) rfl (w.heap.size + 1) rfl f.arr lf.out ?_; simp only [Act.put, List.setIfInBounds_toArray, List.set_cons_succ, List.set_cons_zero]; go_big_quiet_on)
      | go_big_quiet_step (first | (with_reducible exact Q0.out _) | (with_reducible exact Q1.out _)))
    refine wpQuiet_nil ?_
    intro _ hw'
    obtain ⟨⟨dq, osq⟩, hw''⟩ := hw'
    subst hw''
    have hJ := HI.out.go (below_regrown W dq osq)
    obtain ⟨V, hV⟩ : ∃ V, grow (redrawn W dq) osq = V := ⟨_, rfl⟩
    rw [hV] at hJ ⊢
    have HJ := Lib.hid hJ
    have x0 : V.cell? ⟨w.heap.size + 1, 0, none⟩ = some (.int .i64 f.code) := hJ.atf 0
    have x1 : V.cell? ⟨w.heap.size + 1, 1, none⟩ = some (.int .i64 f.att) := hJ.atf 1
    have x2 : V.cell? ⟨w.heap.size + 1, 2, none⟩ = some (.bool f.com) := hJ.atf 2
    have x3 : V.cell? ⟨w.heap.size + 1, 3, none⟩ = some (.int .i64 f.push) := hJ.atf 3
    have x4 : V.cell? ⟨w.heap.size + 1, 4, none⟩ = some (.int .i64 f.have_) := hJ.atf 4
    have x5 : V.cell? ⟨w.heap.size + 1, 5, none⟩ = some (.int .i64 f.now) := hJ.atf 5
    have x6 : V.cell? ⟨w.heap.size + 1, 6, none⟩ = some (.int .i64 f.due) := hJ.atf 6
    have y4 : V.cell? ⟨w.heap.size, 4, none⟩ = some (.int .i64 c.least) := hJ.atc 4
    have y8 : V.cell? ⟨w.heap.size, 8, none⟩ = some (.int .i64 c.attempts) := hJ.atc 8
    have y12 : V.cell? ⟨w.heap.size, 12, none⟩ = some (.int .i64 c.tokens) := hJ.atc 12
    clear hV lc lf Q0 Q1 hJ
    go_upto_region 4 with fail
    have hw : (f.code != 14) = false ∨ ((f.code != 14) = true ∧ (f.code != 8) = false) := by
      by_cases h14 : f.code = 14
      · exact .inl (by simp [h14])
      · exact .inr ⟨by simp [h14], by simpa [h14] using h1⟩
    have h4b : (f.push == -1) = false := by simpa using h4
    clear h1 h4 q1
    have d3 : decide (c.attempts ≤ f.att) = false := by simp; omega
    have hp : (0 ≤ f.push ∧ z = Tk.add f.now f.push) ∨ f.push < 0 := by
      by_cases h : 0 ≤ f.push
      · exact .inl ⟨h, hpush h⟩
      · exact .inr (by omega)
    have C6 := Lib.hid (show ∀ u, z = Tk.add f.now f.push → Calls Try.prog 16 #[.int .i64 f.now, .int .i64 f.push] u fun e w' => e = .returned (.int .i64 z) ∧ u = w' from fun u h => by rw [h]; exact Tk.radd_any _ _ u)
    have hk : (f.have_ < t ∧ decide (2 * max f.have_ 0 ≤ t) = false) ∨ (decide (f.have_ < t) = false ∧ (decide (wrap64 (2 * max f.have_ 0) ≤ t) = false ∨ decide (wrap64 (2 * max f.have_ 0) ≤ t) = true)) := by
      by_cases hlt : f.have_ < t
      · have := hm1 hlt
        exact .inl ⟨hlt, by simp; omega⟩
      · exact .inr ⟨by simp; omega, (Bool.eq_false_or_eq_true _).symm⟩
    have e1 : decide (tn ≤ z) = true := by simp; omega
    have e2 : decide (z < td) = true := by simp; omega
    have e3 : decide (tl ≤ td - z) = true := by simp; omega
    clear hm1 hpush
    rcases hw with b1 | ⟨b1, b2⟩ <;> rcases hk with ⟨hlt, d4⟩ | ⟨d5, d6 | d6⟩
    all_goals (
      go_quiet (first | (go_at_call 15; exact Calls.quiet_of_same ((C2.out _).mono fun _ _ h => ⟨h.1, h.2.symm⟩)))
      have hL := HJ.out.go ((Kept.refl V).drewN nq)
      obtain ⟨U, hU⟩ : ∃ U, V.drewN nq = U := ⟨_, rfl⟩
      rw [hU] at hL ⊢
      clear hU x0 x1 x2 x3 x4 x5 x6 y4 y8 y12
      have HL := Lib.hid hL
      have x3 : U.cell? ⟨w.heap.size + 1, 3, none⟩ = some (.int .i64 f.push) := hL.atf 3
      have x5 : U.cell? ⟨w.heap.size + 1, 5, none⟩ = some (.int .i64 f.now) := hL.atf 5
      have Z5 := cell_regrown x5
      have Z6 := cell_regrown (show U.cell? ⟨w.heap.size + 1, 6, none⟩ = some (.int .i64 f.due) from hL.atf 6)
      have Z4 := cell_regrown (show U.cell? ⟨w.heap.size, 4, none⟩ = some (.int .i64 c.least) from hL.atc 4)
      have Q3 := quiet_at (Kept.refl U) (fun x hx => kept_as q3 x)
      have Q4 := quiet_at (Kept.refl U) (fun x hx => kept_as q4 x)
      have Q5 := quiet_at (Kept.refl U) (fun x hx => kept_as q5 x)
      have Q7 := quiet_at (Kept.refl U) (fun x hx => awake_any x)
      clear hL
      rcases hp with ⟨hp, hzz⟩ | hp
      · have C7 := Lib.hid (fun u => C6.out u hzz)
        clear hzz
        go_upto_region 8 with (go_at_call 16; refine (C7.out _).mono ?_; rintro e w' ⟨rfl, rfl⟩)
        refine wp_region_quiet_below (by kernel_rfl) (by kernel_rfl) ?_
        repeat (go_big_quiet_step (first | (with_reducible exact Q3.out _) | (with_reducible exact Q4.out _) | (with_reducible exact Q5.out _) | (with_reducible exact Q7.out _)))
        refine wpQuiet_nil ?_
        intro _ hw'
        obtain ⟨⟨dq2, osq2⟩, hw''⟩ := hw'
        subst hw''
        have hM := (HL.out.go (below_regrown U dq2 osq2)).kept
        go_wp2_with fail
        go_ret
        exact ⟨rfl, hM⟩
      · go_upto_region 8 with fail
        refine wp_region_quiet_below (by kernel_rfl) (by kernel_rfl) ?_
        repeat (go_big_quiet_step (first | (with_reducible exact Q3.out _) | (with_reducible exact Q4.out _) | (with_reducible exact Q5.out _) | (with_reducible exact Q7.out _)))
        refine wpQuiet_nil ?_
        intro _ hw'
        obtain ⟨⟨dq2, osq2⟩, hw''⟩ := hw'
        subst hw''
        have hM := (HL.out.go (below_regrown U dq2 osq2)).kept
        go_wp2_with fail
        go_ret
        exact ⟨rfl, hM⟩)

end Go.Proofs.Ytlngcaonhpiciaa.Po
