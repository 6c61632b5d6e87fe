/- Which packets may be, as the document says it: what each kind has besides. -/
import Derived.Test.YtpgfaklnbehmhaaDoorPk6
namespace Go.Proofs.YtpgfaklnbehmhaaDoor.Pk
open Go.RowKit Go.Sort St BsM IdM PkM
open Go.Proofs.YtpgfaklnbehmhaaDoor.Id
open Go.Proofs.YtpgfaklnbehmhaaDoor.Bs (kept_blk)
set_option linter.unusedVariables false

/-- what every kind has may be, and there is nothing else -/
structure Hd (p : Pk) : Prop where
  b1 : decide (p.fr < 0) = false
  b2 : decide (63 < p.fr) = false
  b3 : decide (p.to < 0) = false
  b4 : decide (63 < p.to) = false
  key : Hid (keyB p.kn p.ki p.ks p.ka = true)
  b6 : decide (p.ka < 1) = false
  same : Hid (sameB p (clean p) = true)
theorem first4t (a b c d : Bool) : a = false ∨ (a = true ∧ b = false) ∨ (a = true ∧ b = true ∧ c = false) ∨ (a = true ∧ b = true ∧ c = true ∧ d = false) ∨ (a = true ∧ b = true ∧ c = true ∧ d = true) := by
  cases a <;> cases b <;> cases c <;> cases d <;> simp
theorem right_eq (c : Int) : Cd.right c = (decide (0 ≤ c) && decide (c ≤ 16)) := rfl

set_option maxRecDepth 100000 in
set_option maxHeartbeats 8000000 in
theorem rok3 {p : Pk} {z : Bool} (hp : Hd p) (hk : p.kind = 3) (hz : Hid (restB p = z)) {w : World} : Calls Tryd.prog 7 #[.agg p.arr] w fun e w' => e = .returned (.bool z) ∧ Kept w w' := by
  have hA0 := At.new w p
  obtain ⟨W, hW, hA⟩ := boxp w p
  have HW := Lib.hid hW
  have hl := load_regrown hA.blk
  have x1 := cell_regrown (show W.cell? ⟨w.heap.size, 1, none⟩ = some (.int .i64 p.fr) from hA.c 1)
  have x2 := cell_regrown (show W.cell? ⟨w.heap.size, 2, none⟩ = some (.int .i64 p.to) from hA.c 2)
  have x3 := cell_regrown (show W.cell? ⟨w.heap.size, 3, none⟩ = some (.int .i64 p.kn) from hA.c 3)
  have x4 := cell_regrown (show W.cell? ⟨w.heap.size, 4, none⟩ = some (.int .i64 p.ki) from hA.c 4)
  have x5 := cell_regrown (show W.cell? ⟨w.heap.size, 5, none⟩ = some (.int .i64 p.ks) from hA.c 5)
  have x6 := cell_regrown (show W.cell? ⟨w.heap.size, 6, none⟩ = some (.int .i64 p.ka) from hA.c 6)
  have he := neq_run (clean p) p
  rw [same_comm, hp.same.out] at he
  have h1 := hp.b1
  have h2 := hp.b2
  have h3 := hp.b3
  have h4 := hp.b4
  have h6 := hp.b6
  have Q1 := quiet_at hA.kept (fun x hx => rclean_any p x)
  have Q2 := quiet_at hA.kept (fun x hx => rkey_as hp.key (w := x))
  have HA := Lib.hid hA
  clear hW hA hA0 hp
  go_enter Tryd.func7, Tryd.ntmps7
  go_wp2_with fail
  rw [HW.out]
  refine wp_region_quiet_below (by kernel_rfl) (by kernel_rfl) ?_
  repeat (first | (go_big_quiet_want; refine quiet_row 27 (.tmp 1) rfl w.heap.size rfl p.arr hl.out ?_; simp only [Act.put, List.setIfInBounds_toArray, List.set_cons_succ, List.set_cons_zero]; go_big_quiet_on) | go_big_quiet_step (first | (with_reducible exact Q1.out _) | (with_reducible exact Q2.out _)))
  refine wpQuiet_nil ?_
  intro _ hw'
  obtain ⟨⟨dq, osq⟩, hw''⟩ := hw'
  subst hw''
  have hU : At w p (grow (redrawn W dq) osq) := HA.out.go (below_regrown W dq osq)
  obtain ⟨u, hu⟩ : ∃ u, grow (redrawn W dq) osq = u := ⟨_, rfl⟩
  rw [hu] at hU ⊢
  clear hu x1 x2 x3 x4 x5 x6 hl he Q1 Q2 h1 h2 h3 h4 h6
  have y0 : u.cell? ⟨w.heap.size, 0, none⟩ = some (.int .i64 3) := by rw [hU.c 0, ← hk]; rfl
  have hb : Hid (true = z) := Lib.hid (by rw [← rest3 hk]; exact hz.out)
  clear hk hz
  go_wp2_with fail
  go_ret
  exact ⟨ret_bool hb.out, hU.kept⟩

set_option maxRecDepth 100000 in
set_option maxHeartbeats 8000000 in
theorem rok4 {p : Pk} {z : Bool} (hp : Hd p) (hk : p.kind = 4) (hz : Hid (restB p = z)) {w : World} : Calls Tryd.prog 7 #[.agg p.arr] w fun e w' => e = .returned (.bool z) ∧ Kept w w' := by
  have hA0 := At.new w p
  obtain ⟨W, hW, hA⟩ := boxp w p
  have HW := Lib.hid hW
  have hl := load_regrown hA.blk
  have x1 := cell_regrown (show W.cell? ⟨w.heap.size, 1, none⟩ = some (.int .i64 p.fr) from hA.c 1)
  have x2 := cell_regrown (show W.cell? ⟨w.heap.size, 2, none⟩ = some (.int .i64 p.to) from hA.c 2)
  have x3 := cell_regrown (show W.cell? ⟨w.heap.size, 3, none⟩ = some (.int .i64 p.kn) from hA.c 3)
  have x4 := cell_regrown (show W.cell? ⟨w.heap.size, 4, none⟩ = some (.int .i64 p.ki) from hA.c 4)
  have x5 := cell_regrown (show W.cell? ⟨w.heap.size, 5, none⟩ = some (.int .i64 p.ks) from hA.c 5)
  have x6 := cell_regrown (show W.cell? ⟨w.heap.size, 6, none⟩ = some (.int .i64 p.ka) from hA.c 6)
  have he := neq_run (clean p) p
  rw [same_comm, hp.same.out] at he
  have h1 := hp.b1
  have h2 := hp.b2
  have h3 := hp.b3
  have h4 := hp.b4
  have h6 := hp.b6
  have Q1 := quiet_at hA.kept (fun x hx => rclean_any p x)
  have Q2 := quiet_at hA.kept (fun x hx => rkey_as hp.key (w := x))
  have HA := Lib.hid hA
  clear hW hA hA0 hp
  go_enter Tryd.func7, Tryd.ntmps7
  go_wp2_with fail
  rw [HW.out]
  refine wp_region_quiet_below (by kernel_rfl) (by kernel_rfl) ?_
  repeat (first | (go_big_quiet_want; refine quiet_row 27 (.tmp 1) rfl w.heap.size rfl p.arr hl.out ?_; simp only [Act.put, List.setIfInBounds_toArray, List.set_cons_succ, List.set_cons_zero]; go_big_quiet_on) | go_big_quiet_step (first | (with_reducible exact Q1.out _) | (with_reducible exact Q2.out _)))
  refine wpQuiet_nil ?_
  intro _ hw'
  obtain ⟨⟨dq, osq⟩, hw''⟩ := hw'
  subst hw''
  have hU : At w p (grow (redrawn W dq) osq) := HA.out.go (below_regrown W dq osq)
  obtain ⟨u, hu⟩ : ∃ u, grow (redrawn W dq) osq = u := ⟨_, rfl⟩
  rw [hu] at hU ⊢
  clear hu x1 x2 x3 x4 x5 x6 hl he Q1 Q2 h1 h2 h3 h4 h6
  have y0 : u.cell? ⟨w.heap.size, 0, none⟩ = some (.int .i64 4) := by rw [hU.c 0, ← hk]; rfl
  have y10 : u.cell? ⟨w.heap.size, 10, none⟩ = some (.int .i64 p.til) := hU.c 10
  have hb : Hid (timeB p.til = z) := Lib.hid (by rw [← rest4 hk]; exact hz.out)
  clear hk hz
  go_wp2_with (go_at_call 18; refine (rtime_as hb).mono ?_; rintro e w' ⟨rfl, rfl⟩)
  go_ret
  exact ⟨rfl, hU.kept⟩

set_option maxRecDepth 100000 in
set_option maxHeartbeats 8000000 in
theorem rok5 {p : Pk} {z : Bool} (hp : Hd p) (hk : p.kind = 5) (hz : Hid (restB p = z)) {w : World} : Calls Tryd.prog 7 #[.agg p.arr] w fun e w' => e = .returned (.bool z) ∧ Kept w w' := by
  have hA0 := At.new w p
  obtain ⟨W, hW, hA⟩ := boxp w p
  have HW := Lib.hid hW
  have hl := load_regrown hA.blk
  have x1 := cell_regrown (show W.cell? ⟨w.heap.size, 1, none⟩ = some (.int .i64 p.fr) from hA.c 1)
  have x2 := cell_regrown (show W.cell? ⟨w.heap.size, 2, none⟩ = some (.int .i64 p.to) from hA.c 2)
  have x3 := cell_regrown (show W.cell? ⟨w.heap.size, 3, none⟩ = some (.int .i64 p.kn) from hA.c 3)
  have x4 := cell_regrown (show W.cell? ⟨w.heap.size, 4, none⟩ = some (.int .i64 p.ki) from hA.c 4)
  have x5 := cell_regrown (show W.cell? ⟨w.heap.size, 5, none⟩ = some (.int .i64 p.ks) from hA.c 5)
  have x6 := cell_regrown (show W.cell? ⟨w.heap.size, 6, none⟩ = some (.int .i64 p.ka) from hA.c 6)
  have he := neq_run (clean p) p
  rw [same_comm, hp.same.out] at he
  have h1 := hp.b1
  have h2 := hp.b2
  have h3 := hp.b3
  have h4 := hp.b4
  have h6 := hp.b6
  have Q1 := quiet_at hA.kept (fun x hx => rclean_any p x)
  have Q2 := quiet_at hA.kept (fun x hx => rkey_as hp.key (w := x))
  have HA := Lib.hid hA
  clear hW hA hA0 hp
  go_enter Tryd.func7, Tryd.ntmps7
  go_wp2_with fail
  rw [HW.out]
  refine wp_region_quiet_below (by kernel_rfl) (by kernel_rfl) ?_
  repeat (first | (go_big_quiet_want; refine quiet_row 27 (.tmp 1) rfl w.heap.size rfl p.arr hl.out ?_; simp only [Act.put, List.setIfInBounds_toArray, List.set_cons_succ, List.set_cons_zero]; go_big_quiet_on) | go_big_quiet_step (first | (with_reducible exact Q1.out _) | (with_reducible exact Q2.out _)))
  refine wpQuiet_nil ?_
  intro _ hw'
  obtain ⟨⟨dq, osq⟩, hw''⟩ := hw'
  subst hw''
  have hU : At w p (grow (redrawn W dq) osq) := HA.out.go (below_regrown W dq osq)
  obtain ⟨u, hu⟩ : ∃ u, grow (redrawn W dq) osq = u := ⟨_, rfl⟩
  rw [hu] at hU ⊢
  clear hu x1 x2 x3 x4 x5 x6 hl he Q1 Q2 h1 h2 h3 h4 h6
  have y0 : u.cell? ⟨w.heap.size, 0, none⟩ = some (.int .i64 5) := by rw [hU.c 0, ← hk]; rfl
  have y22 : u.cell? ⟨w.heap.size, 22, none⟩ = some (.int .i64 p.delay) := hU.c 22
  have hb : Hid (decide (-1 ≤ p.delay ∧ p.delay ≤ 1125899906842624) = z) := Lib.hid (by rw [← rest5 hk]; exact hz.out)
  clear hk hz
  by_cases hd : p.delay = -1
  · have hd1 : (p.delay == -1) = true := by simpa using hd
    have hb2 : Hid (z = true) := Lib.hid (by rw [← hb.out, hd]; rfl)
    clear hd hb
    go_wp2_with fail
    go_ret
    exact ⟨ret_bool hb2.out.symm, hU.kept⟩
  · have hd1 : (p.delay == -1) = false := by simpa using hd
    have hb2 : Hid (timeB p.delay = z) := Lib.hid (by rw [← hb.out]; unfold timeB; rw [decide_eq_decide]; omega)
    clear hd hb
    go_wp2_with (go_at_call 18; refine (rtime_as hb2).mono ?_; rintro e w' ⟨rfl, rfl⟩)
    go_ret
    exact ⟨rfl, hU.kept⟩

set_option maxRecDepth 100000 in
set_option maxHeartbeats 8000000 in
theorem rok0 {p : Pk} {z : Bool} (hp : Hd p) (hk : p.kind ≠ 1 ∧ p.kind ≠ 2 ∧ p.kind ≠ 3 ∧ p.kind ≠ 4 ∧ p.kind ≠ 5) (hz : Hid (restB p = z)) {w : World} : Calls Tryd.prog 7 #[.agg p.arr] w fun e w' => e = .returned (.bool z) ∧ Kept w w' := by
  have hA0 := At.new w p
  obtain ⟨W, hW, hA⟩ := boxp w p
  have HW := Lib.hid hW
  have hl := load_regrown hA.blk
  have x1 := cell_regrown (show W.cell? ⟨w.heap.size, 1, none⟩ = some (.int .i64 p.fr) from hA.c 1)
  have x2 := cell_regrown (show W.cell? ⟨w.heap.size, 2, none⟩ = some (.int .i64 p.to) from hA.c 2)
  have x3 := cell_regrown (show W.cell? ⟨w.heap.size, 3, none⟩ = some (.int .i64 p.kn) from hA.c 3)
  have x4 := cell_regrown (show W.cell? ⟨w.heap.size, 4, none⟩ = some (.int .i64 p.ki) from hA.c 4)
  have x5 := cell_regrown (show W.cell? ⟨w.heap.size, 5, none⟩ = some (.int .i64 p.ks) from hA.c 5)
  have x6 := cell_regrown (show W.cell? ⟨w.heap.size, 6, none⟩ = some (.int .i64 p.ka) from hA.c 6)
  have he := neq_run (clean p) p
  rw [same_comm, hp.same.out] at he
  have h1 := hp.b1
  have h2 := hp.b2
  have h3 := hp.b3
  have h4 := hp.b4
  have h6 := hp.b6
  have Q1 := quiet_at hA.kept (fun x hx => rclean_any p x)
  have Q2 := quiet_at hA.kept (fun x hx => rkey_as hp.key (w := x))
  have HA := Lib.hid hA
  clear hW hA hA0 hp
  have hb : Hid (false = z) := Lib.hid (by rw [← rest0 hk]; exact hz.out)
  have e1 : (p.kind == 1) = false := by simpa using hk.1
  have e2 : (p.kind == 2) = false := by simpa using hk.2.1
  have e3 : (p.kind == 3) = false := by simpa using hk.2.2.1
  have e4 : (p.kind == 4) = false := by simpa using hk.2.2.2.1
  have e5 : (p.kind == 5) = false := by simpa using hk.2.2.2.2
  clear hk hz
  go_enter Tryd.func7, Tryd.ntmps7
  go_wp2_with fail
  rw [HW.out]
  refine wp_region_quiet_below (by kernel_rfl) (by kernel_rfl) ?_
  repeat (first | (go_big_quiet_want; refine quiet_row 27 (.tmp 1) rfl w.heap.size rfl p.arr hl.out ?_; simp only [Act.put, List.setIfInBounds_toArray, List.set_cons_succ, List.set_cons_zero]; go_big_quiet_on) | go_big_quiet_step (first | (with_reducible exact Q1.out _) | (with_reducible exact Q2.out _)))
  refine wpQuiet_nil ?_
  intro _ hw'
  obtain ⟨⟨dq, osq⟩, hw''⟩ := hw'
  subst hw''
  have hU : At w p (grow (redrawn W dq) osq) := HA.out.go (below_regrown W dq osq)
  obtain ⟨u, hu⟩ : ∃ u, grow (redrawn W dq) osq = u := ⟨_, rfl⟩
  rw [hu] at hU ⊢
  clear hu x1 x2 x3 x4 x5 x6 hl he Q1 Q2 h1 h2 h3 h4 h6
  have y0 : u.cell? ⟨w.heap.size, 0, none⟩ = some (.int .i64 p.kind) := hU.c 0
  go_wp2_with fail
  go_ret
  exact ⟨ret_bool hb.out, hU.kept⟩

set_option maxRecDepth 100000 in
set_option maxHeartbeats 8000000 in
theorem rok2 {p : Pk} {z : Bool} (hp : Hd p) (hk : p.kind = 2) (hz : Hid (restB p = z)) {w : World} : Calls Tryd.prog 7 #[.agg p.arr] w fun e w' => e = .returned (.bool z) ∧ Kept w w' := by
  have hA0 := At.new w p
  obtain ⟨W, hW, hA⟩ := boxp w p
  have HW := Lib.hid hW
  have hl := load_regrown hA.blk
  have x1 := cell_regrown (show W.cell? ⟨w.heap.size, 1, none⟩ = some (.int .i64 p.fr) from hA.c 1)
  have x2 := cell_regrown (show W.cell? ⟨w.heap.size, 2, none⟩ = some (.int .i64 p.to) from hA.c 2)
  have x3 := cell_regrown (show W.cell? ⟨w.heap.size, 3, none⟩ = some (.int .i64 p.kn) from hA.c 3)
  have x4 := cell_regrown (show W.cell? ⟨w.heap.size, 4, none⟩ = some (.int .i64 p.ki) from hA.c 4)
  have x5 := cell_regrown (show W.cell? ⟨w.heap.size, 5, none⟩ = some (.int .i64 p.ks) from hA.c 5)
  have x6 := cell_regrown (show W.cell? ⟨w.heap.size, 6, none⟩ = some (.int .i64 p.ka) from hA.c 6)
  have he := neq_run (clean p) p
  rw [same_comm, hp.same.out] at he
  have h1 := hp.b1
  have h2 := hp.b2
  have h3 := hp.b3
  have h4 := hp.b4
  have h6 := hp.b6
  have Q1 := quiet_at hA.kept (fun x hx => rclean_any p x)
  have Q2 := quiet_at hA.kept (fun x hx => rkey_as hp.key (w := x))
  have HA := Lib.hid hA
  clear hW hA hA0 hp
  go_enter Tryd.func7, Tryd.ntmps7
  go_wp2_with fail
  rw [HW.out]
  refine wp_region_quiet_below (by kernel_rfl) (by kernel_rfl) ?_
  repeat (first | (go_big_quiet_want; refine quiet_row 27 (.tmp 1) rfl w.heap.size rfl p.arr hl.out ?_; simp only [Act.put, List.setIfInBounds_toArray, List.set_cons_succ, List.set_cons_zero]; go_big_quiet_on) | go_big_quiet_step (first | (with_reducible exact Q1.out _) | (with_reducible exact Q2.out _)))
  refine wpQuiet_nil ?_
  intro _ hw'
  obtain ⟨⟨dq, osq⟩, hw''⟩ := hw'
  subst hw''
  have hU : At w p (grow (redrawn W dq) osq) := HA.out.go (below_regrown W dq osq)
  obtain ⟨u, hu⟩ : ∃ u, grow (redrawn W dq) osq = u := ⟨_, rfl⟩
  rw [hu] at hU ⊢
  clear hu x1 x2 x3 x4 x5 x6 hl he Q1 Q2 h1 h2 h3 h4 h6
  have y0 : u.cell? ⟨w.heap.size, 0, none⟩ = some (.int .i64 2) := by rw [hU.c 0, ← hk]; rfl
  have y19 : u.cell? ⟨w.heap.size, 19, none⟩ = some (.int .i64 p.code) := hU.c 19
  have y20 : u.cell? ⟨w.heap.size, 20, none⟩ = some (.int .i64 p.value) := hU.c 20
  have hb : Hid (replyB p = z) := Lib.hid (by rw [← rest2 hk]; exact hz.out)
  clear hk hz
  have hr := Cd.rright_any p.code u
  obtain ⟨zr, hzr⟩ : ∃ z, Cd.right p.code = z := ⟨_, rfl⟩
  rw [hzr] at hr
  have HR := Lib.hid hr
  clear hr
  have hv0 : decide (0 ≤ p.value ∧ p.value ≤ 2147483647) = (decide (0 ≤ p.value) && decide (p.value < 2147483648)) := by
    by_cases a : 0 ≤ p.value <;> by_cases b : p.value < 2147483648 <;> simp [a, b] <;> omega
  cases hm : p.more
  · have y21 : u.cell? ⟨w.heap.size, 21, none⟩ = some (.bool false) := by rw [hU.c 21, ← hm]; rfl
    obtain ⟨v1, hv1⟩ : ∃ z, decide (0 ≤ p.value) = z := ⟨_, rfl⟩
    obtain ⟨v2, hv2⟩ : ∃ z, decide (p.value < 2147483648) = z := ⟨_, rfl⟩
    have hb2 := Lib.hid (show z = (zr && (v1 && v2)) by rw [← hb.out]; unfold replyB; rw [hm, hzr, hv0, hv1, hv2]; rfl)
    clear hb hm hzr hv0
    cases zr
    · clear hv1 hv2
      go_wp2_with (go_at_call 20; refine HR.out.mono ?_; rintro e w' ⟨rfl, rfl⟩)
      go_ret
      exact ⟨ret_bool hb2.out.symm, hU.kept⟩
    · cases v1
      · clear hv2
        go_wp2_with (go_at_call 20; refine HR.out.mono ?_; rintro e w' ⟨rfl, rfl⟩)
        go_ret
        exact ⟨ret_bool (by rw [hb2.out]; first | rfl | exact hv1), hU.kept⟩
      · cases v2
        all_goals
          go_wp2_with (go_at_call 20; refine HR.out.mono ?_; rintro e w' ⟨rfl, rfl⟩)
          go_ret
          exact ⟨ret_bool (by rw [hb2.out]; first | rfl | exact hv2 | (simp only [hv1, hv2]; rfl)), hU.kept⟩
  · have y21 : u.cell? ⟨w.heap.size, 21, none⟩ = some (.bool true) := by rw [hU.c 21, ← hm]; rfl
    have hb1 : z = (decide (p.code = 0) && decide (p.value = 0)) := by rw [← hb.out]; unfold replyB; rw [hm]; rfl
    clear hv0 hb hm
    by_cases hc : p.code = 0
    · by_cases hv : p.value = 0
      · have hb2 := Lib.hid (show z = true by rw [hb1, hc, hv]; rfl)
        rw [hc] at y19
        rw [hv] at y20
        have hz1 : zr = true := by rw [← hzr, hc]; rfl
        subst hz1
        rw [hc] at HR
        clear hb1 hc hv hzr
        go_wp2_with (go_at_call 20; refine HR.out.mono ?_; rintro e w' ⟨rfl, rfl⟩)
        go_ret
        exact ⟨ret_bool hb2.out.symm, hU.kept⟩
      · have hb2 := Lib.hid (show z = false by rw [hb1, decide_eq_false hv]; simp)
        rw [hc] at y19
        have hv1 : (p.value != 0) = true := by simpa using hv
        clear hb1 hc hv hzr
        go_wp2_with fail
        go_ret
        exact ⟨ret_bool hb2.out.symm, hU.kept⟩
    · have hb2 := Lib.hid (show z = false by rw [hb1, decide_eq_false hc]; rfl)
      have hc1 : (p.code != 0) = true := by simpa using hc
      clear hb1 hc hzr
      go_wp2_with fail
      go_ret
      exact ⟨ret_bool hb2.out.symm, hU.kept⟩

end Go.Proofs.YtpgfaklnbehmhaaDoor.Pk
