/- Which packets may be, as the document says it: a Call; and all kinds together. -/
import Derived.Test.YtpgfaklnbehmhaaDoorPk7
namespace Go.Proofs.YtpgfaklnbehmhaaDoor.Pk
open Go.RowKit Go.Sort St BsM IdM PkM
open Go.Proofs.YtpgfaklnbehmhaaDoor.Id
open Go.Proofs.YtpgfaklnbehmhaaDoor.Bs (kept_blk)
set_option linter.unusedVariables false

set_option maxRecDepth 100000 in
set_option maxHeartbeats 8000000 in
theorem rok1 {p : Pk} {z : Bool} (hp : Hd p) (hk : p.kind = 1) (hz : Hid (restB p = z)) {w : World} : Calls Tryd.prog 7 #[.agg p.arr] w fun e w' => e = .returned (.bool z) ∧ Kept w w' := by
  have hA0 := At.new w p
  obtain ⟨W, hW, hA⟩ := boxp w p
  have HW := Lib.hid hW
  have hl := load_regrown hA.blk
  have x1 := cell_regrown (show W.cell? ⟨w.heap.size, 1, none⟩ = some (.int .i64 p.fr) from hA.c 1)
  have x2 := cell_regrown (show W.cell? ⟨w.heap.size, 2, none⟩ = some (.int .i64 p.to) from hA.c 2)
  have x3 := cell_regrown (show W.cell? ⟨w.heap.size, 3, none⟩ = some (.int .i64 p.kn) from hA.c 3)
  have x4 := cell_regrown (show W.cell? ⟨w.heap.size, 4, none⟩ = some (.int .i64 p.ki) from hA.c 4)
  have x5 := cell_regrown (show W.cell? ⟨w.heap.size, 5, none⟩ = some (.int .i64 p.ks) from hA.c 5)
  have x6 := cell_regrown (show W.cell? ⟨w.heap.size, 6, none⟩ = some (.int .i64 p.ka) from hA.c 6)
  have he := neq_run (clean p) p
  rw [same_comm, hp.same.out] at he
  have h1 := hp.b1
  have h2 := hp.b2
  have h3 := hp.b3
  have h4 := hp.b4
  have h6 := hp.b6
  have Q1 := quiet_at hA.kept (fun x hx => rclean_any p x)
  have Q2 := quiet_at hA.kept (fun x hx => rkey_as hp.key (w := x))
  have HA := Lib.hid hA
  clear hW hA hA0 hp
  go_enter Tryd.func7, Tryd.ntmps7
  go_wp2_with fail
  rw [HW.out]
  refine wp_region_quiet_below (by kernel_rfl) (by kernel_rfl) ?_
  repeat (first | (go_big_quiet_want; refine quiet_row 27 (.tmp 1) rfl w.heap.size rfl p.arr hl.out ?_; simp only [Act.put, List.setIfInBounds_toArray, List.set_cons_succ, List.set_cons_zero]; go_big_quiet_on) | go_big_quiet_step (first | (with_reducible exact Q1.out _) | (with_reducible exact Q2.out _)))
  refine wpQuiet_nil ?_
  intro _ hw'
  obtain ⟨⟨dq, osq⟩, hw''⟩ := hw'
  subst hw''
  have hU : At w p (grow (redrawn W dq) osq) := HA.out.go (below_regrown W dq osq)
  obtain ⟨u, hu⟩ : ∃ u, grow (redrawn W dq) osq = u := ⟨_, rfl⟩
  rw [hu] at hU ⊢
  clear hu x1 x2 x3 x4 x5 x6 hl he Q1 Q2 h1 h2 h3 h4 h6
  have y0 : u.cell? ⟨w.heap.size, 0, none⟩ = some (.int .i64 1) := by rw [hU.c 0, ← hk]; rfl
  have y7 : u.cell? ⟨w.heap.size, 7, none⟩ = some (.int .i64 p.hop) := hU.c 7
  have y8 : u.cell? ⟨w.heap.size, 8, none⟩ = some (.int .i64 p.stamp) := hU.c 8
  have y9 : u.cell? ⟨w.heap.size, 9, none⟩ = some (.string p.tm) := hU.c 9
  have y10 : u.cell? ⟨w.heap.size, 10, none⟩ = some (.int .i64 p.til) := hU.c 10
  have y11 : u.cell? ⟨w.heap.size, 11, none⟩ = some (.int .i64 p.prog) := hU.c 11
  have y12 : u.cell? ⟨w.heap.size, 12, none⟩ = some (.int .i64 p.rn) := hU.c 12
  have y13 : u.cell? ⟨w.heap.size, 13, none⟩ = some (.int .i64 p.ri) := hU.c 13
  have y14 : u.cell? ⟨w.heap.size, 14, none⟩ = some (.int .i64 p.rs) := hU.c 14
  obtain ⟨z0, h0⟩ : ∃ z, decB p = z := ⟨_, rfl⟩
  obtain ⟨b1, h1⟩ : ∃ z, decide (p.hop < 1) = z := ⟨_, rfl⟩
  obtain ⟨b2, h2⟩ : ∃ z, decide (16 < p.hop) = z := ⟨_, rfl⟩
  obtain ⟨b3, h3⟩ : ∃ z, decide (p.prog < 0) = z := ⟨_, rfl⟩
  obtain ⟨b4, h4⟩ : ∃ z, decide (15 < p.prog) = z := ⟨_, rfl⟩
  obtain ⟨z2, k2⟩ : ∃ z, Hid (timeB p.stamp = z) := ⟨_, rfl⟩
  obtain ⟨z3, k3⟩ : ∃ z, Hid (timeB p.til = z) := ⟨_, rfl⟩
  obtain ⟨z5, k5⟩ : ∃ z, Hid (rightB p.rn p.ri p.rs = z) := ⟨_, rfl⟩
  obtain ⟨z6, k6⟩ : ∃ z, Hid (keyB p.pn p.pi p.ps p.pa = z) := ⟨_, rfl⟩
  have hb := Lib.hid (show z = (z0 && ((!b1 && !b2) && (z2 && (z3 && ((!b3 && !b4) && (z5 && z6)))))) by
    rw [← hz.out, rest1 hk]; unfold callB; rw [two_dec, two_dec, h0, h1, h2, h3, h4, k2.out, k3.out, k5.out, k6.out])
  have hd := Tm.rdec_any p.tm u
  obtain ⟨E, hE⟩ : ∃ E, (Tm.dec p.tm.data.toList).2 = E := ⟨_, rfl⟩
  have hE0 : decide (E = 0) = z0 := by rw [← hE]; exact h0
  obtain ⟨T, hT⟩ : ∃ T, (Tm.dec p.tm.data.toList).1 = T := ⟨_, rfl⟩
  rw [hE, hT] at hd
  have HD := Lib.hid hd
  have hE1 : (E != 0) = !z0 := by rw [← hE0]; simp [bne, BEq.beq]
  clear hz hd hE hT hE0 h0 hk
  rcases first5 (!z0) b1 b2 b3 b4 with h | ⟨h, rfl⟩ | ⟨h, rfl, rfl⟩ | ⟨h, rfl, rfl, rfl⟩ | ⟨h, rfl, rfl, rfl, rfl⟩ | ⟨h, rfl, rfl, rfl, rfl⟩
  · obtain rfl : z0 = false := by simpa using h
    clear h h1 h2 h3 h4
    go_wp2_with (go_at_call 17; refine HD.out.mono ?_; rintro e w' ⟨rfl, rfl⟩)
    go_ret
    exact ⟨ret_bool (by rw [hb.out]; simp), hU.kept⟩
  · obtain rfl : z0 = true := by simpa using h
    clear h h2 h3 h4
    go_wp2_with (go_at_call 17; refine HD.out.mono ?_; rintro e w' ⟨rfl, rfl⟩)
    go_ret
    exact ⟨ret_bool (by rw [hb.out]; simp), hU.kept⟩
  · obtain rfl : z0 = true := by simpa using h
    clear h h3 h4
    go_wp2_with (go_at_call 17; refine HD.out.mono ?_; rintro e w' ⟨rfl, rfl⟩)
    go_ret
    exact ⟨ret_bool (by rw [hb.out]; simp), hU.kept⟩
  · obtain rfl : z0 = true := by simpa using h
    clear h h4
    go_wp2_with (go_at_call 17; refine HD.out.mono ?_; rintro e w' ⟨rfl, rfl⟩)
    go_ret
    exact ⟨ret_bool (by rw [hb.out]; simp), hU.kept⟩
  · obtain rfl : z0 = true := by simpa using h
    clear h
    go_wp2_with (go_at_call 17; refine HD.out.mono ?_; rintro e w' ⟨rfl, rfl⟩)
    go_ret
    exact ⟨ret_bool (by rw [hb.out]; simp), hU.kept⟩
  obtain rfl : z0 = true := by simpa using h
  clear h
  rcases first4t z2 z3 z5 z6 with rfl | ⟨rfl, rfl⟩ | ⟨rfl, rfl, rfl⟩ | ⟨rfl, rfl, rfl, rfl⟩ | ⟨rfl, rfl, rfl, rfl⟩
  · go_wp2_with (first
      | (go_at_call 17; refine HD.out.mono ?_; rintro e w' ⟨rfl, rfl⟩)
      | (go_at_call 18; (first | ((with_reducible refine (rtime_as k2).mono ?_); rintro e w' ⟨rfl, rfl⟩) | ((with_reducible refine (rtime_as k3).mono ?_); rintro e w' ⟨rfl, rfl⟩))))
    go_ret
    exact ⟨ret_bool (by rw [hb.out]; rfl), hU.kept⟩
  · go_wp2_with (first
      | (go_at_call 17; refine HD.out.mono ?_; rintro e w' ⟨rfl, rfl⟩)
      | (go_at_call 18; (first | ((with_reducible refine (rtime_as k2).mono ?_); rintro e w' ⟨rfl, rfl⟩) | ((with_reducible refine (rtime_as k3).mono ?_); rintro e w' ⟨rfl, rfl⟩))))
    go_ret
    exact ⟨ret_bool (by rw [hb.out]; rfl), hU.kept⟩
  all_goals
    go_wp2_with (first
      | (go_at_call 17; refine HD.out.mono ?_; rintro e w' ⟨rfl, rfl⟩)
      | (go_at_call 18; (first | ((with_reducible refine (rtime_as k2).mono ?_); rintro e w' ⟨rfl, rfl⟩) | ((with_reducible refine (rtime_as k3).mono ?_); rintro e w' ⟨rfl, rfl⟩)))
      | (go_at_call 19; refine (at_as hU (rright_as k5)).mono ?_; rintro e v ⟨rfl, hB⟩
         have y15 : v.cell? ⟨w.heap.size, 15, none⟩ = some (.int .i64 p.pn) := hB.c 15
         have y16 : v.cell? ⟨w.heap.size, 16, none⟩ = some (.int .i64 p.pi) := hB.c 16
         have y17 : v.cell? ⟨w.heap.size, 17, none⟩ = some (.int .i64 p.ps) := hB.c 17
         have y18 : v.cell? ⟨w.heap.size, 18, none⟩ = some (.int .i64 p.pa) := hB.c 18)
      | (go_at_call 16; refine (at_as hB (rkey_as k6)).mono ?_; rintro e x ⟨rfl, hC⟩))
    go_ret
    exact ⟨ret_bool (by rw [hb.out]; rfl), by first | exact hC.kept | exact hB.kept⟩

theorem rok_as {p : Pk} {z : Bool} (hz : Hid (okB p = z)) {w : World} : Calls Tryd.prog 7 #[.agg p.arr] w fun e w' => e = .returned (.bool z) ∧ Kept w w' := by
  have hh := rok_head hz.out rfl rfl rfl rfl rfl rfl rfl
  by_cases hall : decide (p.fr < 0) = false ∧ decide (63 < p.fr) = false ∧ decide (p.to < 0) = false ∧ decide (63 < p.to) = false ∧ keyB p.kn p.ki p.ks p.ka = true ∧ decide (p.ka < 1) = false ∧ sameB p (clean p) = true
  · have hp : Hd p := ⟨hall.1, hall.2.1, hall.2.2.1, hall.2.2.2.1, hall.2.2.2.2.1, hall.2.2.2.2.2.1, hall.2.2.2.2.2.2⟩
    have hr : Hid (restB p = z) := Lib.hid (by rw [hh, hall.1, hall.2.1, hall.2.2.1, hall.2.2.2.1, hall.2.2.2.2.1, hall.2.2.2.2.2.1, hall.2.2.2.2.2.2]; simp)
    rcases kinds p.kind with h | h | h | h | h | h
    · exact rok1 hp h hr
    · exact rok2 hp h hr
    · exact rok3 hp h hr
    · exact rok4 hp h hr
    · exact rok5 hp h hr
    · exact rok0 hp h hr
  · have hz0 : z = false := by
      rw [hh]
      cases h1 : decide (p.fr < 0) <;> cases h2 : decide (63 < p.fr) <;> cases h3 : decide (p.to < 0) <;> cases h4 : decide (63 < p.to) <;> cases h5 : keyB p.kn p.ki p.ks p.ka <;> cases h6 : decide (p.ka < 1) <;> cases h7 : sameB p (clean p) <;>
        first | rfl | exact absurd ⟨h1, h2, h3, h4, h5, h6, h7⟩ hall
    rw [hz0]
    exact rok_no (z := z) rfl rfl rfl rfl (Lib.hid rfl) rfl (Lib.hid rfl) hall

end Go.Proofs.YtpgfaklnbehmhaaDoor.Pk
