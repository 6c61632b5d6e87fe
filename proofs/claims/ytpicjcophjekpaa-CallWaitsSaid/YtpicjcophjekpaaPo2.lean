/- Package policy: the document's own Decide; how many attempts there may be, both ways; the chapter's example. -/
import Derived.Test.YtpicjcophjekpaaPo
namespace Go.Proofs.Ytpicjcophjekpaa.Po
open Go.RowKit Go.Sort St Ad
open Go.Proofs.Ytpicjcophjekpaa.Id (quiet_at boxed1)
set_option linter.unusedVariables false

theorem loadf_regrown {W : World} {b : Nat} {f : Ft} (hb : W.heap[b]? = some (.cells f.arr 35 (0, 0))) :
    Hid (∀ w, (∃ q : Regrown, w = grow (redrawn W q.d) q.os) → (loadVar 35 ⟨b, 0, none⟩).run Try.prog w = .ok (.agg f.arr) w) :=
  fun w ⟨q, hq⟩ => by subst hq; exact run_loadVar_row _ b _ _ f.arr (0, 0) _ (kept_blk (below_regrown W q.d q.os) hb) Try.underlying35 rfl info_rft
theorem kept_as {f : FuncId} {args : Array Value} {v : Value} (h : ∀ u, Calls Try.prog f args u fun e w' => e = .returned v ∧ u = w') : ∀ u, Calls Try.prog f args u fun e w' => e = .returned v ∧ Kept u w' :=
  fun u => (h u).mono fun _ _ k => ⟨k.1, k.2 ▸ Kept.refl u⟩

set_option maxRecDepth 100000 in
set_option maxHeartbeats 2000000 in
theorem rdec_any (c : Cf) (f : Ft) (w : World) : Calls Try.prog 35 #[.agg c.arr, .agg f.arr] w fun e w' => e = .returned (.tuple #[.int .i64 (dec c f).1, .int .i64 (dec c f).2]) ∧ Kept w w' := by
  obtain ⟨W, hW, hI⟩ := In.new w 35 c f
  have HW := Lib.hid hW
  have HI := Lib.hid hI
  have HK := Lib.hid hI.kept
  obtain ⟨z, hz⟩ : ∃ z, ready c f = z := ⟨_, rfl⟩
  obtain ⟨m, hm⟩ : ∃ m, Th.may f.have_ c.tokens = m := ⟨_, rfl⟩
  obtain ⟨n, hn⟩ : ∃ n, Bu.enough f.due z c.least = n := ⟨_, rfl⟩
  have q1 : ∀ u, Calls Try.prog 46 #[.agg c.arr, .agg f.arr] u fun e w' => e = .returned (.int .i64 z) ∧ Kept u w' := fun u => by rw [← hz]; exact rready_any c f u
  have C3 := Lib.hid (show ∀ u, Calls Try.prog 44 #[.int .i64 f.have_, .int .i64 c.tokens] u fun e w' => e = .returned (.bool m) ∧ u = w' from fun u => by rw [← hm]; exact Th.rmay_any _ _ u)
  have q4 : ∀ u, Calls Try.prog 45 #[.int .i64 f.due, .int .i64 z, .int .i64 c.least] u fun e w' => e = .returned (.bool n) ∧ u = w' := fun u => by rw [← hn]; exact Bu.renough_any _ _ _ u
  have Q1 := quiet_at (Kept.refl W) (fun x hx => q1 x)
  have Q4 := quiet_at (Kept.refl W) (fun x hx => kept_as q4 x)
  have C1 := Lib.hid q1
  have HZ := Lib.hid hz
  have HM := Lib.hid hm
  have HN := Lib.hid (show Bu.enough f.due (ready c f) c.least = n by rw [hz]; exact hn)
  have lc := loadc_regrown hI.bc
  have lf := loadf_regrown hI.bf
  have x0 : W.cell? ⟨w.heap.size + 1, 0, none⟩ = some (.int .i64 f.code) := hI.atf 0
  have x1 : W.cell? ⟨w.heap.size + 1, 1, none⟩ = some (.int .i64 f.att) := hI.atf 1
  have x2 : W.cell? ⟨w.heap.size + 1, 2, none⟩ = some (.bool f.com) := hI.atf 2
  have x3 : W.cell? ⟨w.heap.size + 1, 3, none⟩ = some (.int .i64 f.push) := hI.atf 3
  have x4 : W.cell? ⟨w.heap.size + 1, 4, none⟩ = some (.int .i64 f.have_) := hI.atf 4
  have x6 : W.cell? ⟨w.heap.size + 1, 6, none⟩ = some (.int .i64 f.due) := hI.atf 6
  have y4 : W.cell? ⟨w.heap.size, 4, none⟩ = some (.int .i64 c.least) := hI.atc 4
  have y8 : W.cell? ⟨w.heap.size, 8, none⟩ = some (.int .i64 c.attempts) := hI.atc 8
  have y12 : W.cell? ⟨w.heap.size, 12, none⟩ = some (.int .i64 c.tokens) := hI.atc 12
  have Z4 := cell_regrown y4
  have Z6 := cell_regrown x6
  clear hW hz hm hn q1 q4 hI
  go_enter Try.func35, Try.ntmps35
  go_upto_region 1 with fail
  rw [HW.out]
  by_cases hg : (f.code == 14 || f.code == 8) = false
  · have HE := Lib.hid (dec_bad (c := c) hg)
    obtain ⟨b1, b2⟩ : (f.code != 14) = true ∧ (f.code != 8) = true := by simpa [bne, Bool.or_eq_false_iff] using hg
    clear hg
    go_wp2_with fail
    go_ret2
    exact ⟨ret_dec HE.out, HK.out⟩
  have HG := Lib.hid (show (f.code == 14 || f.code == 8) = true from (Bool.eq_false_or_eq_true _).resolve_right hg)
  have hw : (f.code != 14) = false ∨ ((f.code != 14) = true ∧ (f.code != 8) = false) := by
    have h := HG.out
    by_cases h14 : f.code = 14
    · exact .inl (by simp [h14])
    · exact .inr ⟨by simp [h14], by simpa [h14] using h⟩
  clear hg
  rcases hw with b1 | ⟨b1, b2⟩
  all_goals (
    rcases Bool.eq_false_or_eq_true f.com with h2 | h2
    · have HE := Lib.hid (dec_taken (c := c) HG.out h2)
      go_wp2_with fail
      go_ret2
      exact ⟨ret_dec HE.out, HK.out⟩
    by_cases h3 : c.attempts ≤ f.att
    · have HE := Lib.hid (dec_spent (c := c) HG.out h2 h3)
      go_wp2_with fail
      go_ret2
      exact ⟨ret_dec HE.out, HK.out⟩
    by_cases h4 : f.push = -1
    · have HE := Lib.hid (dec_push (c := c) HG.out h2 h3 h4)
      have h4b : (f.push == -1) = true := by simpa using h4
      clear h4
      go_wp2_with fail
      go_ret2
      exact ⟨ret_dec HE.out, HK.out⟩
    have H4 := Lib.hid h4
    have h4b : (f.push == -1) = false := by simpa using h4
    clear h4
    cases m
    · have HE := Lib.hid (dec_thr (c := c) HG.out h2 h3 H4.out HM.out)
      go_wp2_with (first | (go_at_call 44; refine (C3.out _).mono ?_; rintro e w' ⟨rfl, rfl⟩))
      go_ret2
      exact ⟨ret_dec HE.out, HK.out⟩
    go_upto_region 11 with (go_at_call 44; refine (C3.out _).mono ?_; rintro e w' ⟨rfl, rfl⟩)
    refine wp_region_quiet_below (by kernel_rfl) (by kernel_rfl) ?_
    repeat (first
      | (go_big_quiet_want; refine quiet_row 28 (.tmp 2) rfl w.heap.size rfl c.arr lc.out ?_; simp only [Act.put, List.setIfInBounds_toArray, List.set_cons_succ, List.set_cons_zero]; go_big_quiet_on)
      | (go_big_quiet_want; refine quiet_row 35 (.tmp 3) rfl (w.heap.size + 1) rfl f.arr lf.out ?_; simp only [Act.put, List.setIfInBounds_toArray, List.set_cons_succ, List.set_cons_zero]; go_big_quiet_on)
      | go_big_quiet_step (first | (with_reducible exact Q1.out _) | (with_reducible exact Q4.out _)))
    refine wpQuiet_nil ?_
    intro _ hw'
    obtain ⟨⟨dq, osq⟩, hw''⟩ := hw'
    subst hw''
    have hJ := HI.out.go (below_regrown W dq osq)
    obtain ⟨V, hV⟩ : ∃ V, grow (redrawn W dq) osq = V := ⟨_, rfl⟩
    rw [hV] at hJ ⊢
    clear hV x0 x1 x2 x3 x4 x6 y4 y8 y12 lc lf Q1 Q4 Z4 Z6
    have HK2 := Lib.hid hJ.kept
    cases n
    · have HE := Lib.hid (dec_late (c := c) HG.out h2 (by omega) H4.out HM.out HN.out)
      go_wp2_with fail
      go_ret2
      exact ⟨ret_dec HE.out, HK2.out⟩
    · have HE := Lib.hid (show dec c f = (0, z) by rw [← HZ.out]; exact dec_again (c := c) HG.out h2 (by omega) H4.out HM.out HN.out)
      go_wp2_with (first
        | (go_at_call 46; refine (C1.out _).mono ?_; rintro e u1 ⟨rfl, hk1⟩)
        | (refine load_w 28 (.tmp 2) rfl w.heap.size rfl rfl c.arr 14 hJ.bc Try.underlying28 rfl info_cf ?_)
        | (refine load_w 35 (.tmp 3) rfl (w.heap.size + 1) rfl rfl f.arr 8 hJ.bf Try.underlying35 rfl info_rft ?_))
      go_ret2
      exact ⟨ret_dec HE.out, HK2.out.trans hk1⟩)


theorem hops_int (n : Int) : ((hops n : Nat) : Int) = max 0 (min n 16) := by unfold hops; omega



end Go.Proofs.Ytpicjcophjekpaa.Po
