/- What is done with a call: package admit's. -/
import Derived.Test.YtnloliedmdjakaaAd
namespace Go.Proofs.Ytnloliedmdjakaa.Ad
open Go.RowKit Go.Sort St PkM IdM
open Go.Proofs.Ytnloliedmdjakaa.Id (quiet_at)
set_option linter.unusedVariables false

section
variable {c : Cf} {p : Pk} {r : Ro}
theorem chk_seen (h : r.seen = true) : chk c p r = (3, 0) := by simp [chk, h]
theorem chk_hop (h : r.seen = false) (h1 : c.hops < p.hop) : chk c p r = (1, 8) := by simp [chk, h, h1]
theorem chk_prog (h : r.seen = false) (h1 : ¬ c.hops < p.hop) (h2 : p.prog < 0 ∨ r.programs ≤ p.prog) : chk c p r = (1, 12) := by simp only [chk, h, if_neg h1, if_pos h2]; rfl
theorem chk_late (h : r.seen = false) (h1 : ¬ c.hops < p.hop ∧ ¬ (p.prog < 0 ∨ r.programs ≤ p.prog)) (hq : Bu.enough (dlP p) r.now c.least = false) : chk c p r = (1, 4) := by simp only [chk, h, if_neg h1.1, if_neg h1.2, hq]; rfl
theorem chk_over (h : r.seen = false) (h1 : ¬ c.hops < p.hop ∧ ¬ (p.prog < 0 ∨ r.programs ≤ p.prog)) (hq : Bu.enough (dlP p) r.now c.least = true) (h4 : Tk.clamp p.til ≤ Tk.clamp r.now) : chk c p r = (1, 1) := by simp only [chk, h, if_neg h1.1, if_neg h1.2, hq, if_pos h4]; rfl
theorem chk_full (h : r.seen = false) (h1 : ¬ c.hops < p.hop ∧ ¬ (p.prog < 0 ∨ r.programs ≤ p.prog)) (hq : Bu.enough (dlP p) r.now c.least = true) (h4 : ¬ Tk.clamp p.til ≤ Tk.clamp r.now) (h5 : c.cap ≤ r.running) : chk c p r = (2, c.base) := by simp only [chk, h, if_neg h1.1, if_neg h1.2, hq, if_neg h4, if_pos h5]; rfl
theorem chk_start (h : r.seen = false) (h1 : ¬ c.hops < p.hop ∧ ¬ (p.prog < 0 ∨ r.programs ≤ p.prog)) (hq : Bu.enough (dlP p) r.now c.least = true) (h4 : ¬ Tk.clamp p.til ≤ Tk.clamp r.now) (h5 : ¬ c.cap ≤ r.running) : chk c p r = (0, 0) := by simp only [chk, h, if_neg h1.1, if_neg h1.2, hq, if_neg h4, if_neg h5]; rfl
theorem ret_chk {x y : Int} (h : chk c p r = (x, y)) : Ending.returned (.tuple #[.int .i64 x, .int .i64 y]) = .returned (.tuple #[.int .i64 (chk c p r).1, .int .i64 (chk c p r).2]) := by rw [h]
end

set_option maxRecDepth 100000 in
set_option maxHeartbeats 4000000 in
theorem check_any (c : Cf) (p : Pk) (r : Ro) (w : World) : Calls Try.prog 7 #[.agg c.arr, .agg p.arr, .agg r.arr] w fun e w' => e = .returned (.tuple #[.int .i64 (chk c p r).1, .int .i64 (chk c p r).2]) ∧ Kept w w' := by
  obtain ⟨W, hW, hI⟩ := In.new w c p r
  obtain ⟨seen, hs⟩ : ∃ b, r.seen = b := ⟨_, rfl⟩
  obtain ⟨d, hd⟩ : ∃ d, dlP p = d := ⟨_, rfl⟩
  obtain ⟨q, hq⟩ : ∃ q, Bu.enough (dlP p) r.now c.least = q := ⟨_, rfl⟩
  obtain ⟨tn, htn⟩ : ∃ t, Tk.clamp r.now = t := ⟨_, rfl⟩
  obtain ⟨tu, htu⟩ : ∃ t, Tk.clamp p.til = t := ⟨_, rfl⟩
  have HS := Lib.hid hs
  have HQ := Lib.hid hq
  have HTN := Lib.hid htn
  have HTU := Lib.hid htu
  have HW := Lib.hid hW
  have HK := Lib.hid hI.kept
  have x4 : W.cell? ⟨w.heap.size, 4, none⟩ = some (.int .i64 c.least) := hI.atc 4
  have x5 : W.cell? ⟨w.heap.size, 5, none⟩ = some (.int .i64 c.hops) := hI.atc 5
  have y7 : W.cell? ⟨w.heap.size + 1, 7, none⟩ = some (.int .i64 p.hop) := hI.atp 7
  have y11 : W.cell? ⟨w.heap.size + 1, 11, none⟩ = some (.int .i64 p.prog) := hI.atp 11
  have r0 : W.cell? ⟨w.heap.size + 2, 0, none⟩ = some (.int .i64 r.now) := hI.atr 0
  have r2 : W.cell? ⟨w.heap.size + 2, 2, none⟩ = some (.int .i64 r.programs) := hI.atr 2
  have r3 : W.cell? ⟨w.heap.size + 2, 3, none⟩ = some (.bool seen) := by rw [← hs]; exact hI.atr 3
  have Z0 := cell_regrown r0
  have Z4 := cell_regrown x4
  have hl := loadp_regrown hI.bp
  have Q1 := quiet_at (Kept.refl W) (fun x hx => show Calls Try.prog 11 #[.agg p.arr] x fun e w' => e = .returned (.int .i64 d) ∧ Kept x w' from by rw [← hd]; exact deadline_p p x)
  have Q2 := quiet_at (Kept.refl W) (fun x hx => show Calls Try.prog 14 #[.int .i64 d, .int .i64 r.now, .int .i64 c.least] x fun e w' => e = .returned (.bool q) ∧ Kept x w' from by rw [← hq, hd]; exact (Bu.enough_any d r.now c.least x).mono fun _ _ h => ⟨h.1, h.2 ▸ Kept.refl _⟩)
  have C1 := Lib.hid (show ∀ u, Calls Try.prog 15 #[.int .i64 r.now] u fun e w' => e = .returned (.int .i64 tn) ∧ u = w' from fun u => by rw [← htn]; exact Tk.clamp_any r.now u)
  have C2 := Lib.hid (show ∀ u, Calls Try.prog 15 #[.int .i64 p.til] u fun e w' => e = .returned (.int .i64 tu) ∧ u = w' from fun u => by rw [← htu]; exact Tk.clamp_any p.til u)
  have HI := Lib.hid hI
  clear hW hI hs hd hq htn htu
  cases seen
  rotate_left
  · have HE := Lib.hid (chk_seen (c := c) (p := p) HS.out)
    go_enter Try.func7, Try.ntmps7
    go_upto_region 1 with fail
    rw [HW.out]
    go_wp2_with fail
    go_ret2
    exact ⟨ret_chk (HE.out), HK.out⟩
  by_cases h1 : c.hops < p.hop
  · have HE := Lib.hid (chk_hop HS.out h1)
    go_enter Try.func7, Try.ntmps7
    go_upto_region 1 with fail
    rw [HW.out]
    go_wp2_with fail
    go_ret2
    exact ⟨ret_chk (HE.out), HK.out⟩
  by_cases h2 : p.prog < 0
  · have HE := Lib.hid (chk_prog HS.out h1 (.inl h2))
    go_enter Try.func7, Try.ntmps7
    go_upto_region 1 with fail
    rw [HW.out]
    go_wp2_with fail
    go_ret2
    exact ⟨ret_chk (HE.out), HK.out⟩
  by_cases h3 : r.programs ≤ p.prog
  · have HE := Lib.hid (chk_prog HS.out h1 (.inr h3))
    go_enter Try.func7, Try.ntmps7
    go_upto_region 1 with fail
    rw [HW.out]
    go_wp2_with fail
    go_ret2
    exact ⟨ret_chk (HE.out), HK.out⟩
  have H123 := Lib.hid (And.intro h1 (show ¬ (p.prog < 0 ∨ r.programs ≤ p.prog) by omega))
  go_enter Try.func7, Try.ntmps7
  go_upto_region 1 with fail
  rw [HW.out]
  go_upto_region 7 with fail
  refine wp_region_quiet_below (by kernel_rfl) (by kernel_rfl) ?_
  repeat (first | (go_big_quiet_want; refine quiet_row 30 (.tmp 4) rfl (w.heap.size + 1) rfl p.arr hl.out ?_; simp only [Act.put, List.setIfInBounds_toArray, List.set_cons_succ, List.set_cons_zero]; go_big_quiet_on) | go_big_quiet_step (first | (with_reducible exact Q1.out _) | (with_reducible exact Q2.out _)))
  refine wpQuiet_nil ?_
  intro _ hw'
  obtain ⟨⟨dq, osq⟩, hw''⟩ := hw'
  subst hw''
  have hJ := HI.out.go (below_regrown W dq osq)
  obtain ⟨V, hV⟩ : ∃ V, grow (redrawn W dq) osq = V := ⟨_, rfl⟩
  rw [hV] at hJ ⊢
  clear hV x4 x5 y7 y11 r0 r2 r3 Z0 Z4 hl Q1 Q2
  have HK2 := Lib.hid hJ.kept
  have u6 : V.cell? ⟨w.heap.size, 6, none⟩ = some (.int .i64 c.cap) := hJ.atc 6
  have u9 : V.cell? ⟨w.heap.size, 9, none⟩ = some (.int .i64 c.base) := hJ.atc 9
  have v10 : V.cell? ⟨w.heap.size + 1, 10, none⟩ = some (.int .i64 p.til) := hJ.atp 10
  have s0 : V.cell? ⟨w.heap.size + 2, 0, none⟩ = some (.int .i64 r.now) := hJ.atr 0
  have s1 : V.cell? ⟨w.heap.size + 2, 1, none⟩ = some (.int .i64 r.running) := hJ.atr 1
  clear hJ
  cases q
  · have HE := Lib.hid (chk_late HS.out H123.out HQ.out)
    go_wp2_with fail
    go_ret2
    exact ⟨ret_chk HE.out, HK2.out⟩
  by_cases h4 : tu ≤ tn
  · have HE := Lib.hid (chk_over HS.out H123.out HQ.out (by rw [HTU.out, HTN.out]; exact h4))
    go_wp2_with fail
    go_quiet (first | (go_at_call 15; exact Calls.quiet_of_same ((C1.out _).mono fun _ _ h => ⟨h.1, h.2.symm⟩)) | (go_at_call 15; exact Calls.quiet_of_same ((C2.out _).mono fun _ _ h => ⟨h.1, h.2.symm⟩)))
    go_wp2_with fail
    go_ret2
    exact ⟨ret_chk HE.out, HK2.out.drewN _⟩
  by_cases h5 : c.cap ≤ r.running
  · have HE := Lib.hid (chk_full HS.out H123.out HQ.out (by rw [HTU.out, HTN.out]; exact h4) h5)
    go_wp2_with fail
    go_quiet (first | (go_at_call 15; exact Calls.quiet_of_same ((C1.out _).mono fun _ _ h => ⟨h.1, h.2.symm⟩)) | (go_at_call 15; exact Calls.quiet_of_same ((C2.out _).mono fun _ _ h => ⟨h.1, h.2.symm⟩)))
    go_wp2_with fail
    go_quiet (fail)
    go_wp2_with fail
    go_ret2
    exact ⟨ret_chk HE.out, (HK2.out.drewN _).drewN _⟩
  · have HE := Lib.hid (chk_start HS.out H123.out HQ.out (by rw [HTU.out, HTN.out]; exact h4) h5)
    go_wp2_with fail
    go_quiet (first | (go_at_call 15; exact Calls.quiet_of_same ((C1.out _).mono fun _ _ h => ⟨h.1, h.2.symm⟩)) | (go_at_call 15; exact Calls.quiet_of_same ((C2.out _).mono fun _ _ h => ⟨h.1, h.2.symm⟩)))
    go_wp2_with fail
    go_ret2
    exact ⟨ret_chk HE.out, HK2.out.drewN _⟩

end Go.Proofs.Ytnloliedmdjakaa.Ad
