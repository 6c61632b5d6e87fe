/- The law that who rests does not begin ahead of what was told, and who waits is not lost ahead of its time. -/
import Derived.Test.YtpicjcophjekpaaCl5
import Derived.Test.YtpicjcophjekpaaClA
import Derived.Test.YtpicjcophjekpaaHg
import Derived.Deep.DeepCutAuto
namespace Go.Proofs.Ytpicjcophjekpaa.Cl
open Go.RowKit Go.Sort St Ad Po Blk
open Go.Proofs.Ytpicjcophjekpaa.Id (quiet_at)
set_option linter.unusedVariables false

/-- blocks of a call's own, and a call elsewhere -/
structure Two (w u : World) (g : Cf) (f : Ft) (B : Nat) (c : Cl) : Prop where
  bl : Bl w u [(g.arr, 28), (f.arr, 35)]
  at_ : u.heap[B]? = some (.cells c.arr 31 (0, 0))
section
variable {w u v : World} {g : Cf} {f : Ft} {B X : Nat} {c q : Cl}
theorem Two.go (h : Two w u g f B c) (k : Kept u v) : Two w v g f B c := ⟨h.bl.go k, kept_at k h.at_⟩
theorem Two.far (h : Two w u g f B c) (hX : u.heap.size ≤ X) {o : Obj} {v : World} (k : Kept u v) (ys : Array Value) : Two w (v.setRow X ys) g f B c := by
  have hb := blk_lt h.at_
  refine ⟨(h.bl.go k).far (by have := h.bl.size; omega) ys, ?_⟩
  rw [setRow_other _ _ _ _ (by omega)]
  exact kept_at k h.at_
end

theorem clamp_again (a b : Int) : Tk.add (Tk.clamp a) b = Tk.add a b := by
  unfold Tk.add
  rw [show Tk.clamp (Tk.clamp a) = Tk.clamp a from by unfold Tk.clamp Tk.most; omega]
/-- what is past is not ahead -/
theorem past_ge {n t gr : Int} (h0 : 0 ≤ t) (h1 : t ≤ 1125899906842624) (h : Tk.past n t gr = true) : t ≤ Tk.clamp n := by
  unfold Tk.past at h
  have h2 := of_decide_eq_true h
  have h3 := Tk.up_lo t gr
  rw [Tk.clamp_id t h0 h1] at h3
  omega
theorem ready_now (g : Cf) (f : Ft) : Tk.clamp f.now ≤ ready g f := Tk.add_ge _ _

set_option maxRecDepth 100000 in
set_option maxHeartbeats 4000000 in
theorem waits_any (g : Cf) (f : Ft) (n wt gr : Int) (w : World) :
    Calls Try.prog 5 #[.agg g.arr, .agg f.arr, .int .i64 n, .int .i64 wt, .int .i64 gr] w fun e w' => e = .returned (.bool true) ∧ Kept w w' := by
  obtain ⟨W, hW, hB⟩ : ∃ W, (w.alloc (.cells g.arr 28)).alloc (.cells f.arr 35) = W ∧ Bl w W [(g.arr, 28), (f.arr, 35)] := ⟨_, rfl, Bl.start [(_, _), (_, _)] w⟩
  have HW := Lib.hid hW
  have HX := Lib.hid hB
  have AW := Lib.hid (fun w => awake_any w)
  have y5 : W.cell? ⟨w.heap.size + 1, 5, none⟩ = some (.int .i64 f.now) := hB.cell 1 5 rfl
  have c1 := begin_any zero zero_fit f.now
  have e1 : begin zero f.now = ⟨0, 0, 0, 0, 0, 1, 1, Tk.clamp f.now, 0, false, 0, 0, 1⟩ := begin_on f.now (.inl rfl) (by decide)
  obtain ⟨c, hc⟩ : ∃ c, begin zero f.now = c := ⟨_, rfl⟩
  rw [hc] at c1 e1
  simp only [Cl.arr, zero] at c1
  have C1 := Lib.hid (show ∀ u, Calls Try.prog 16 #[.agg #[.int .i64 0, .int .i64 0, .int .i64 0, .int .i64 0, .int .i64 0, .int .i64 0, .int .i64 0, .int .i64 0, .int .i64 0, .bool false, .int .i64 0, .int .i64 0, .int .i64 0], .int .i64 f.now] u fun e w' => e = .returned (.agg c.arr) ∧ Kept u w' from c1)
  have E1 := Lib.hid e1
  have hcs : c.st = 1 := by rw [e1]
  have hca : c.att = 1 := by rw [e1]
  have hcse : c.se = Tk.clamp f.now := by rw [e1]
  have hba := bad_any c g f (by omega)
  obtain ⟨q, y, hq⟩ : ∃ q y, bad c g f = (q, y) := ⟨_, _, rfl⟩
  rw [hq] at hba
  have S1 := Lib.hid hba
  have MY := Lib.hid (fun u => mine_any f u)
  -- what comes of it
  have hway : (y ≠ 0 ∧ q.st = 3) ∨ (y = 0 ∧ q.st = 2 ∧ q.re = ready g (asks c f)) := by
    obtain ⟨a, b, hab⟩ : ∃ a b, dec g (asks c f) = (a, b) := ⟨_, _, rfl⟩
    by_cases h0 : a = 0
    · rw [bad_again hcs hab h0] at hq
      have hb : b = ready g (asks c f) := by
        have hd := congrArg Prod.fst hab
        have hd2 := congrArg Prod.snd hab
        dsimp only at hd hd2
        rw [← hd2]
        rw [h0] at hd
        unfold dec at hd ⊢
        split at hd
        · cases hd
        split at hd
        · cases hd
        split at hd
        · cases hd
        split at hd
        · cases hd
        split at hd
        · cases hd
        split at hd
        · cases hd
        rename_i z1 z2 z3 z4 z5 z6
        rw [if_neg z1, if_neg z2, if_neg z3, if_neg z4, if_neg z5, if_neg z6]
      obtain ⟨rfl, rfl⟩ := Prod.mk.inj hq
      exact .inr ⟨rfl, rfl, hb⟩
    · rw [bad_ends hcs hab h0, ends_on f.code (by omega)] at hq
      obtain ⟨rfl, rfl⟩ := Prod.mk.inj hq
      exact .inl ⟨h0, rfl⟩
  have WAY := Lib.hid hway
  -- what was lost
  obtain ⟨l0, hl0⟩ : ∃ l0, lost c n wt gr = l0 := ⟨_, rfl⟩
  obtain ⟨cn, hcn⟩ : ∃ cn, Tk.clamp n = cn := ⟨_, rfl⟩
  obtain ⟨aw, haw⟩ : ∃ aw, Tk.add f.now wt = aw := ⟨_, rfl⟩
  have hlt : l0 = true → ¬ cn < aw := fun h => by
    rw [← hl0, lost_on n wt gr hcs, hcse, clamp_again] at h
    have := past_ge (Tk.add_lo _ _) (Tk.add_hi _ _) h
    rw [← hcn, ← haw]; omega
  have q1 : ∀ u, Calls Try.prog 12 #[.agg c.arr, .int .i64 n, .int .i64 wt, .int .i64 gr] u fun e w' => e = .returned (.bool l0) ∧ Kept u w' := fun u => by rw [← hl0]; exact lost_any c n wt gr u
  have q2 : ∀ u, Calls Try.prog 17 #[.int .i64 n] u fun e w' => e = .returned (.int .i64 cn) ∧ Kept u w' := kept_as (fun u => by rw [← hcn]; exact Tk.rclamp_any n u)
  have q3 : ∀ u, Calls Try.prog 18 #[.int .i64 f.now, .int .i64 wt] u fun e w' => e = .returned (.int .i64 aw) ∧ Kept u w' := kept_as (fun u => by rw [← haw]; exact Tk.radd_any _ _ u)
  have QC := Lib.hid q2
  have HCN := Lib.hid hcn
  clear hW hB c1 e1 hc hcs hca hcse hba hq hway hl0 hcn haw
  go_enter Try.func5, Try.ntmps5
  go_upto_region 1 with fail
  rw [HW.out]
  go_upto_region 2 with (first
    | (go_at_call 16; refine (C1.out _).mono ?_; rintro e u0 ⟨rfl, k0⟩)
    | (refine store_new rfl 31 (.tmp 11) (.tmp 18) rfl u0.heap.size c.arr rfl rfl _ _ rfl 13 info_cl rfl rfl (by kernel_rfl) ?_))
  obtain ⟨V, hV⟩ : ∃ V, u0.alloc (.cells c.arr 31) = V := ⟨_, rfl⟩
  rw [hV]
  obtain ⟨B, hBe⟩ : ∃ B, u0.heap.size = B := ⟨_, rfl⟩
  have hT : Two w V g f B c := by rw [← hV, ← hBe]; exact ⟨(HX.out.go k0).go (Kept.one u0 _), blk_new u0 _⟩
  rw [hBe]
  simp only [Act.put]
  have HT := Lib.hid hT
  have lc : Hid (∀ u, (∃ p : Regrown, u = grow (redrawn V p.d) p.os) → (loadVar 31 ⟨B, 0, none⟩).run Try.prog u = .ok (.agg c.arr) u) :=
    fun u ⟨p, hp⟩ => by subst hp; exact run_loadVar_row _ _ _ _ c.arr (0, 0) _ (kept_at (below_regrown V p.d p.os) hT.at_) Try.underlying31 rfl info_cl
  have z5 : V.cell? ⟨w.heap.size + 1, 5, none⟩ = some (.int .i64 f.now) := hT.bl.cell 1 5 rfl
  have Z5 := cell_regrown z5
  have Q1 := quiet_at (Kept.refl V) (fun x hx => q1 x)
  have Q2 := quiet_at (Kept.refl V) (fun x hx => q2 x)
  have Q3 := quiet_at (Kept.refl V) (fun x hx => q3 x)
  clear k0 hV hBe q1 q2 q3 HX y5 hT
  go_cut [32] (fun t wx => t = .bool false ∧ Two w wx g f B c)
  case first =>
    rcases Bool.eq_false_or_eq_true l0 with hl | hl
    · have hnl : decide (cn < aw) = false := decide_eq_false (by have := hlt hl; omega)
      have HNL := Lib.hid hnl
      rw [hl] at Q1
      clear hlt hl
      refine wp_region_quiet_below (by kernel_rfl) (by kernel_rfl) ?_
      repeat (first
        | (go_big_quiet_want; refine quiet_row 31 (.tmp 11) rfl B rfl c.arr lc.out ?_; simp only [Act.put, List.setIfInBounds_toArray, List.set_cons_succ, List.set_cons_zero]; go_big_quiet_on)
        | go_big_quiet_step (first | (with_reducible exact Q1.out _) | (with_reducible exact Q2.out _) | (with_reducible exact Q3.out _)))
      refine wpQuiet_nil ?_
      intro _ hw'
      obtain ⟨⟨dq, osq⟩, hw''⟩ := hw'
      subst hw''
      have hZ := HT.out.go (below_regrown V dq osq)
      go_wp2_with fail
      go_meet
      first | exact ⟨rfl, hZ⟩ | exact ⟨congrArg Value.bool HNL.out, hZ⟩
    · rw [hl] at Q1
      clear hlt hl
      refine wp_region_quiet_below (by kernel_rfl) (by kernel_rfl) ?_
      repeat (first
        | (go_big_quiet_want; refine quiet_row 31 (.tmp 11) rfl B rfl c.arr lc.out ?_; simp only [Act.put, List.setIfInBounds_toArray, List.set_cons_succ, List.set_cons_zero]; go_big_quiet_on)
        | go_big_quiet_step (first | (with_reducible exact Q1.out _) | (with_reducible exact Q2.out _) | (with_reducible exact Q3.out _)))
      refine wpQuiet_nil ?_
      intro _ hw'
      obtain ⟨⟨dq, osq⟩, hw''⟩ := hw'
      subst hw''
      have hZ := HT.out.go (below_regrown V dq osq)
      go_wp2_with fail
      go_meet
      exact ⟨rfl, hZ⟩
  case rest =>
    obtain ⟨rfl, hB⟩ := hcut
    have HB := Lib.hid hB
    clear hB lc Z5 z5 Q1 Q2 Q3 hlt HT
    go_upto_region 4 with fail
    go_cut [12, 13] (fun p o wx => ∃ X : Nat, p = .pointer (some ⟨X, 0, none⟩) ∧ o = .int .i64 y ∧ Two w wx g f B c ∧ wx.heap[X]? = some (.cells q.arr 31 (0, 0)))
    case first =>
      refine Hg.region_g 9 (fun u => Two w u g f B c) (by kernel_rfl) (HB.out.go (Kept.refl _).drew) (fun hHeld => ?_)
      refine Hg.take_b 0 (some 34) rfl rfl (by kernel_rfl) (by kernel_rfl) (by kernel_rfl) (by kernel_rfl) (fun _ _ _ h => h) (Hg.yields_row 31 (.tmp 11) rfl B 0 rfl rfl (fun u hu => run_loadVar_row _ B _ _ c.arr (0, 0) _ hu.at_ Try.underlying31 rfl info_cl)) hHeld ?_
      simp only [Act.put, List.setIfInBounds_toArray, List.set_cons_zero, List.set_cons_succ]
      refine Hg.take_b 1 (some 35) rfl rfl (by kernel_rfl) (by kernel_rfl) (by kernel_rfl) (by kernel_rfl) (fun _ _ _ h => h) (Hg.yields_row 28 (.tmp 5) rfl w.heap.size 0 rfl rfl (fun u hu => run_loadVar_row _ w.heap.size _ _ g.arr (0, 0) _ (hu.bl.blk 0 rfl) Try.underlying28 rfl info_cf)) hHeld ?_
      simp only [Act.put, List.setIfInBounds_toArray, List.set_cons_zero, List.set_cons_succ]
      refine Hg.take_b 2 (some 36) rfl rfl (by kernel_rfl) (by kernel_rfl) (by kernel_rfl) (by kernel_rfl) (fun _ _ _ h => h) (Hg.yields_row 35 (.tmp 6) rfl (w.heap.size + 1) 0 rfl rfl (fun u hu => run_loadVar_row _ (w.heap.size + 1) _ _ f.arr (0, 0) _ (hu.bl.blk 1 rfl) Try.underlying35 rfl info_rft)) hHeld ?_
      simp only [Act.put, List.setIfInBounds_toArray, List.set_cons_zero, List.set_cons_succ]
      refine Hg.fork_b 3 8 rfl rfl (by kernel_rfl) (fun K hK => ?_) (fun K hK => ?_)
      · go_simp
        refine (MY.out _).mono ?_
        rintro e u1 ⟨rfl, k1⟩
        go_wp2_with fail
        have hHeld := hHeld.go k1
        refine hK.out _ _ hHeld ?_
        clear hK K
        refine Hg.fork_b 4 8 rfl rfl (by kernel_rfl) (fun K hK => ?_) (fun K hK => ?_)
        · go_simp
          refine (S1.out _).mono ?_
          rintro e u2 ⟨rfl, k2⟩
          go_wp2_with fail
          have hHeld := hHeld.go k2
          refine hK.out _ _ hHeld ?_
          clear hK K
          refine Hg.take_b 5 (some 33) (v := ?_) rfl rfl (by kernel_rfl) (by kernel_rfl) (by kernel_rfl) (by kernel_rfl) (fun _ _ _ h => h) (Or.inl ⟨by rfl, ?_⟩) hHeld ?_
          rotate_left
          · (intro w hSw; go_simp; try with_reducible rfl)
          simp only [Act.put, List.setIfInBounds_toArray, List.set_cons_zero, List.set_cons_succ]
          refine Hg.take_b 6 (some 39) (v := ?_) rfl rfl (by kernel_rfl) (by kernel_rfl) (by kernel_rfl) (by kernel_rfl) (fun _ _ _ h => h) (Or.inl ⟨by rfl, ?_⟩) hHeld ?_
          rotate_left
          · (intro w hSw; go_simp; try with_reducible rfl)
          simp only [Act.put, List.setIfInBounds_toArray, List.set_cons_zero, List.set_cons_succ]
          refine Hg.take_p 7 (some 40) (v := ?_) rfl rfl (by kernel_rfl) (by kernel_rfl) (by kernel_rfl) (by kernel_rfl) (fun _ _ _ h => h) (Or.inl ⟨by rfl, ?_⟩) (fun _ => hHeld) ?_
          rotate_left
          · (intro w hSw; clear hSw; go_simp; try with_reducible rfl)
          simp only [Act.put, List.setIfInBounds_toArray, List.set_cons_zero, List.set_cons_succ]
          refine Hg.step_b 8 rfl (by kernel_rfl) (fun K hK => ?_)
          go_simp
          have h0 := hHeld
          have hb := blk_new u2 (.cells #[.int .i64 0, .int .i64 0, .int .i64 0, .int .i64 0, .int .i64 0, .int .i64 0, .int .i64 0, .int .i64 0, .int .i64 0, .bool false, .int .i64 0, .int .i64 0, .int .i64 0] 31)
          have hk := Kept.one u2 (.cells #[.int .i64 0, .int .i64 0, .int .i64 0, .int .i64 0, .int .i64 0, .int .i64 0, .int .i64 0, .int .i64 0, .int .i64 0, .bool false, .int .i64 0, .int .i64 0, .int .i64 0] 31)
          have hHeld := hHeld.go (Kept.one _ (.cells #[.int .i64 0, .int .i64 0, .int .i64 0, .int .i64 0, .int .i64 0, .int .i64 0, .int .i64 0, .int .i64 0, .int .i64 0, .bool false, .int .i64 0, .int .i64 0, .int .i64 0] 31))
          refine hK.out _ _ hHeld ?_
          clear hK K
          refine Hg.store_s 9 31 (.tmp 12) (.tmp 39) rfl (by kernel_rfl) (by kernel_rfl) rfl rfl rfl _ q.arr rfl rfl 31 _ hb info_cl rfl (by kernel_rfl) ?_
          refine Hg.take_p 10 (some 13) (v := ?_) rfl rfl (by kernel_rfl) (by kernel_rfl) (by kernel_rfl) (by kernel_rfl) (fun _ _ _ h => h) (Or.inl ⟨by rfl, ?_⟩) (fun h => by have h2 : true = false := h; cases h2) ?_
          rotate_left
          · (intro w hSw; clear hSw; go_simp; try with_reducible rfl)
          simp only [Act.put, List.setIfInBounds_toArray, List.set_cons_zero, List.set_cons_succ]
          refine Hg.done_g (by kernel_rfl) ?_
          have hS := Two.far h0 (Nat.le_refl _) (o := .cells #[.int .i64 0, .int .i64 0, .int .i64 0, .int .i64 0, .int .i64 0, .int .i64 0, .int .i64 0, .int .i64 0, .int .i64 0, .bool false, .int .i64 0, .int .i64 0, .int .i64 0] 31) hk q.arr
          have hr := setRow_heap _ _ _ q.arr _ _ hb
          go_wp2_with fail
          go_meet
          exact ⟨_, rfl, rfl, hS, hr⟩
        · go_simp
          have h0 := hHeld
          have hb := blk_new u1 (.cells #[.int .i64 0, .int .i64 0, .int .i64 0, .int .i64 0, .int .i64 0, .int .i64 0, .int .i64 0, .int .i64 0, .int .i64 0, .bool false, .int .i64 0, .int .i64 0, .int .i64 0] 31)
          have hk := Kept.one u1 (.cells #[.int .i64 0, .int .i64 0, .int .i64 0, .int .i64 0, .int .i64 0, .int .i64 0, .int .i64 0, .int .i64 0, .int .i64 0, .bool false, .int .i64 0, .int .i64 0, .int .i64 0] 31)
          have hHeld := hHeld.go (Kept.one _ (.cells #[.int .i64 0, .int .i64 0, .int .i64 0, .int .i64 0, .int .i64 0, .int .i64 0, .int .i64 0, .int .i64 0, .int .i64 0, .bool false, .int .i64 0, .int .i64 0, .int .i64 0] 31))
          refine hK.out _ _ hHeld ?_
          clear hK K
          refine Hg.step_b 4 rfl (by kernel_rfl) (fun K hK => ?_)
          go_simp
          refine (S1.out _).mono ?_
          rintro e u2 ⟨rfl, k2⟩
          go_wp2_with fail
          have hb := kept_at k2 hb
          have hk := hk.trans k2
          have hHeld := hHeld.go k2
          refine hK.out _ _ hHeld ?_
          clear hK K
          refine Hg.take_b 5 (some 33) (v := ?_) rfl rfl (by kernel_rfl) (by kernel_rfl) (by kernel_rfl) (by kernel_rfl) (fun _ _ _ h => h) (Or.inl ⟨by rfl, ?_⟩) hHeld ?_
          rotate_left
          · (intro w hSw; go_simp; try with_reducible rfl)
          simp only [Act.put, List.setIfInBounds_toArray, List.set_cons_zero, List.set_cons_succ]
          refine Hg.take_b 6 (some 39) (v := ?_) rfl rfl (by kernel_rfl) (by kernel_rfl) (by kernel_rfl) (by kernel_rfl) (fun _ _ _ h => h) (Or.inl ⟨by rfl, ?_⟩) hHeld ?_
          rotate_left
          · (intro w hSw; go_simp; try with_reducible rfl)
          simp only [Act.put, List.setIfInBounds_toArray, List.set_cons_zero, List.set_cons_succ]
          refine Hg.take_p 7 (some 40) (v := ?_) rfl rfl (by kernel_rfl) (by kernel_rfl) (by kernel_rfl) (by kernel_rfl) (fun _ _ _ h => h) (Or.inl ⟨by rfl, ?_⟩) (fun _ => hHeld) ?_
          rotate_left
          · (intro w hSw; clear hSw; go_simp; try with_reducible rfl)
          simp only [Act.put, List.setIfInBounds_toArray, List.set_cons_zero, List.set_cons_succ]
          refine Hg.store_s 9 31 (.tmp 12) (.tmp 39) rfl (by kernel_rfl) (by kernel_rfl) rfl rfl rfl _ q.arr rfl rfl 31 _ hb info_cl rfl (by kernel_rfl) ?_
          refine Hg.take_p 10 (some 13) (v := ?_) rfl rfl (by kernel_rfl) (by kernel_rfl) (by kernel_rfl) (by kernel_rfl) (fun _ _ _ h => h) (Or.inl ⟨by rfl, ?_⟩) (fun h => by have h2 : true = false := h; cases h2) ?_
          rotate_left
          · (intro w hSw; clear hSw; go_simp; try with_reducible rfl)
          simp only [Act.put, List.setIfInBounds_toArray, List.set_cons_zero, List.set_cons_succ]
          refine Hg.done_g (by kernel_rfl) ?_
          have hS := Two.far h0 (Nat.le_refl _) (o := .cells #[.int .i64 0, .int .i64 0, .int .i64 0, .int .i64 0, .int .i64 0, .int .i64 0, .int .i64 0, .int .i64 0, .int .i64 0, .bool false, .int .i64 0, .int .i64 0, .int .i64 0] 31) hk q.arr
          have hr := setRow_heap _ _ _ q.arr _ _ hb
          go_wp2_with fail
          go_meet
          exact ⟨_, rfl, rfl, hS, hr⟩
      · go_simp
        have h0 := hHeld
        have hb := blk_new (World.drew wc) (.cells #[.int .i64 0, .int .i64 0, .int .i64 0, .int .i64 0, .int .i64 0, .int .i64 0, .int .i64 0, .int .i64 0, .int .i64 0, .bool false, .int .i64 0, .int .i64 0, .int .i64 0] 31)
        have hk := Kept.one (World.drew wc) (.cells #[.int .i64 0, .int .i64 0, .int .i64 0, .int .i64 0, .int .i64 0, .int .i64 0, .int .i64 0, .int .i64 0, .int .i64 0, .bool false, .int .i64 0, .int .i64 0, .int .i64 0] 31)
        have hHeld := hHeld.go (Kept.one _ (.cells #[.int .i64 0, .int .i64 0, .int .i64 0, .int .i64 0, .int .i64 0, .int .i64 0, .int .i64 0, .int .i64 0, .int .i64 0, .bool false, .int .i64 0, .int .i64 0, .int .i64 0] 31))
        refine hK.out _ _ hHeld ?_
        clear hK K
        refine Hg.step_b 3 rfl (by kernel_rfl) (fun K hK => ?_)
        go_simp
        refine (MY.out _).mono ?_
        rintro e u1 ⟨rfl, k1⟩
        go_wp2_with fail
        have hb := kept_at k1 hb
        have hk := hk.trans k1
        have hHeld := hHeld.go k1
        refine hK.out _ _ hHeld ?_
        clear hK K
        refine Hg.step_b 4 rfl (by kernel_rfl) (fun K hK => ?_)
        go_simp
        refine (S1.out _).mono ?_
        rintro e u2 ⟨rfl, k2⟩
        go_wp2_with fail
        have hb := kept_at k2 hb
        have hk := hk.trans k2
        have hHeld := hHeld.go k2
        refine hK.out _ _ hHeld ?_
        clear hK K
        refine Hg.take_b 5 (some 33) (v := ?_) rfl rfl (by kernel_rfl) (by kernel_rfl) (by kernel_rfl) (by kernel_rfl) (fun _ _ _ h => h) (Or.inl ⟨by rfl, ?_⟩) hHeld ?_
        rotate_left
        · (intro w hSw; go_simp; try with_reducible rfl)
        simp only [Act.put, List.setIfInBounds_toArray, List.set_cons_zero, List.set_cons_succ]
        refine Hg.take_b 6 (some 39) (v := ?_) rfl rfl (by kernel_rfl) (by kernel_rfl) (by kernel_rfl) (by kernel_rfl) (fun _ _ _ h => h) (Or.inl ⟨by rfl, ?_⟩) hHeld ?_
        rotate_left
        · (intro w hSw; go_simp; try with_reducible rfl)
        simp only [Act.put, List.setIfInBounds_toArray, List.set_cons_zero, List.set_cons_succ]
        refine Hg.take_p 7 (some 40) (v := ?_) rfl rfl (by kernel_rfl) (by kernel_rfl) (by kernel_rfl) (by kernel_rfl) (fun _ _ _ h => h) (Or.inl ⟨by rfl, ?_⟩) (fun _ => hHeld) ?_
        rotate_left
        · (intro w hSw; clear hSw; go_simp; try with_reducible rfl)
        simp only [Act.put, List.setIfInBounds_toArray, List.set_cons_zero, List.set_cons_succ]
        refine Hg.store_s 9 31 (.tmp 12) (.tmp 39) rfl (by kernel_rfl) (by kernel_rfl) rfl rfl rfl _ q.arr rfl rfl 31 _ hb info_cl rfl (by kernel_rfl) ?_
        refine Hg.take_p 10 (some 13) (v := ?_) rfl rfl (by kernel_rfl) (by kernel_rfl) (by kernel_rfl) (by kernel_rfl) (fun _ _ _ h => h) (Or.inl ⟨by rfl, ?_⟩) (fun h => by have h2 : true = false := h; cases h2) ?_
        rotate_left
        · (intro w hSw; clear hSw; go_simp; try with_reducible rfl)
        simp only [Act.put, List.setIfInBounds_toArray, List.set_cons_zero, List.set_cons_succ]
        refine Hg.done_g (by kernel_rfl) ?_
        have hS := Two.far h0 (Nat.le_refl _) (o := .cells #[.int .i64 0, .int .i64 0, .int .i64 0, .int .i64 0, .int .i64 0, .int .i64 0, .int .i64 0, .int .i64 0, .int .i64 0, .bool false, .int .i64 0, .int .i64 0, .int .i64 0] 31) hk q.arr
        have hr := setRow_heap _ _ _ q.arr _ _ hb
        go_wp2_with fail
        go_meet
        exact ⟨_, rfl, rfl, hS, hr⟩
    case rest =>
      obtain ⟨X, rfl, rfl, hB, hX⟩ := hcut
      have HB := Lib.hid hB
      have HX := Lib.hid hX
      clear hB hX
      rcases WAY.out with ⟨hy, hst⟩ | ⟨hy, hst, hre⟩
      · have x6 : wc.cell? ⟨X, 6, none⟩ = some (.int .i64 3) := by rw [← hst]; exact blk_cell HX.out 6
        have R1 := Lib.hid (show ∀ u, Calls Try.prog 14 #[.agg q.arr, .int .i64 n, .int .i64 gr] u fun e w' => e = .returned (.bool false) ∧ Kept u w' from fun u => by have := rested_any q n gr u; rwa [rested_no n gr (by omega)] at this)
        have hyb : (y != 0) = true := by simpa using hy
        clear hst hy
        go_wp2_with (first
          | (go_at_call 14; refine (R1.out _).mono ?_; rintro e u1 ⟨rfl, k1⟩)
          | (go_at_call 6; refine (AW.out _).mono ?_; rintro e u2 ⟨rfl, k2⟩)
          | (refine load_w 31 (.tmp 12) rfl X rfl rfl q.arr 13 HX.out Try.underlying31 rfl info_cl ?_))
        go_ret
        exact ⟨rfl, (HB.out.bl.kept.trans k1).trans k2⟩
      · subst hy
        obtain ⟨cf, hcf⟩ : ∃ cf, Tk.clamp f.now = cf := ⟨_, rfl⟩
        obtain ⟨ap, hap⟩ : ∃ ap, Tk.add f.now f.push = ap := ⟨_, rfl⟩
        have q4 : ∀ u, Calls Try.prog 17 #[.int .i64 f.now] u fun e w' => e = .returned (.int .i64 cf) ∧ Kept u w' := kept_as (fun u => by rw [← hcf]; exact Tk.rclamp_any _ u)
        have q5 : ∀ u, Calls Try.prog 18 #[.int .i64 f.now, .int .i64 f.push] u fun e w' => e = .returned (.int .i64 ap) ∧ Kept u w' := kept_as (fun u => by rw [← hap]; exact Tk.radd_any _ _ u)
        -- early: not rested
        have hear : (cn < cf ∨ 0 ≤ f.push ∧ cn < ap) → rested q n gr = false := fun h => by
          rcases Bool.eq_false_or_eq_true (rested q n gr) with e | e
          · exfalso
            rw [rested_on n gr hst, hre] at e
            have e2 := past_ge (Tk.add_lo _ _) (Tk.add_hi _ _) e
            rw [HCN.out] at e2
            rcases h with h | h
            · have := ready_now g (asks c f)
              rw [show (asks c f).now = f.now from rfl, hcf] at this
              have e3 : ready g (asks c f) ≤ cn := e2
              omega
            · have := wait_push (c := g) (f := asks c f) h.1
              rw [show (asks c f).now = f.now from rfl, show (asks c f).push = f.push from rfl, hap] at this
              have e3 : ready g (asks c f) ≤ cn := e2
              omega
          · exact e
        have HEAR := Lib.hid hear
        have hlo : lost q n wt gr = false := lost_no n wt gr (by omega)
        have L1 := Lib.hid (show ∀ u, Calls Try.prog 12 #[.agg q.arr, .int .i64 n, .int .i64 wt, .int .i64 gr] u fun e w' => e = .returned (.bool false) ∧ Kept u w' from fun u => by have := lost_any q n wt gr u; rwa [hlo] at this)
        obtain ⟨rs, hrs⟩ : ∃ rs, rested q n gr = rs := ⟨_, rfl⟩
        rw [hrs] at HEAR
        have R1 := Lib.hid (show ∀ u, Calls Try.prog 14 #[.agg q.arr, .int .i64 n, .int .i64 gr] u fun e w' => e = .returned (.bool rs) ∧ Kept u w' from fun u => by rw [← hrs]; exact rested_any q n gr u)
        have z5 : wc.cell? ⟨w.heap.size + 1, 5, none⟩ = some (.int .i64 f.now) := HB.out.bl.cell 1 5 rfl
        have z3 : wc.cell? ⟨w.heap.size + 1, 3, none⟩ = some (.int .i64 f.push) := HB.out.bl.cell 1 3 rfl
        have Z5 := cell_regrown z5
        have Z3 := cell_regrown z3
        have Q2 := quiet_at (Kept.refl wc) (fun x hx => QC.out x)
        have Q4 := quiet_at (Kept.refl wc) (fun x hx => q4 x)
        have Q5 := quiet_at (Kept.refl wc) (fun x hx => q5 x)
        have HST := Lib.hid hst
        clear hear hlo hrs hcf hap q4 q5 hst hre
        go_upto_region 7 with fail
        go_cut [14] (fun t wx => t = .bool (decide (cn < cf) || (decide (0 ≤ f.push) && decide (cn < ap))) ∧ Two w wx g f B c ∧ wx.heap[X]? = some (.cells q.arr 31 (0, 0)))
        case first =>
          rcases Bool.eq_false_or_eq_true (decide (cn < cf)) with d1 | d1
          all_goals
            rcases Bool.eq_false_or_eq_true (decide (0 ≤ f.push)) with d2 | d2
            all_goals
              rcases Bool.eq_false_or_eq_true (decide (cn < ap)) with d3 | d3
              all_goals
                refine wp_region_quiet_below (by kernel_rfl) (by kernel_rfl) ?_
                repeat (go_big_quiet_step (first | (with_reducible exact Q2.out _) | (with_reducible exact Q4.out _) | (with_reducible exact Q5.out _)))
                refine wpQuiet_nil ?_
                intro _ hw'
                obtain ⟨⟨dq, osq⟩, hw''⟩ := hw'
                subst hw''
                have hZ := HB.out.go (below_regrown wc dq osq)
                have hZ2 := kept_at (below_regrown wc dq osq) HX.out
                go_wp2_with fail
                go_meet
                exact ⟨by simp only [d1, d2, d3] <;> rfl, hZ, hZ2⟩
        case rest =>
          clear HB HX z5 z3 Z5 Z3 Q2 Q4 Q5
          obtain ⟨rfl, hB, hX⟩ := hcut
          have HB := Lib.hid hB
          have HX := Lib.hid hX
          have x6 : wc.cell? ⟨X, 6, none⟩ = some (.int .i64 2) := by rw [← HST.out]; exact blk_cell hX 6
          obtain ⟨E, hE⟩ : ∃ E, (decide (cn < cf) || (decide (0 ≤ f.push) && decide (cn < ap))) = E := ⟨_, rfl⟩
          rw [hE]
          clear hB hX HST
          rcases Bool.eq_false_or_eq_true E with e | e
          · subst e
            have hr := HEAR.out (by simpa [Bool.or_eq_true, Bool.and_eq_true, decide_eq_true_eq] using hE)
            subst hr
            clear hE HEAR
            go_wp2_with (first
              | (go_at_call 14; refine (R1.out _).mono ?_; rintro e u1 ⟨rfl, k1⟩)
              | (go_at_call 12; refine (L1.out _).mono ?_; rintro e u2 ⟨rfl, k2⟩)
              | (go_at_call 6; refine (AW.out _).mono ?_; rintro e u3 ⟨rfl, k3⟩)
              | (refine load_w 31 (.tmp 12) rfl X rfl rfl q.arr 13 HX.out Try.underlying31 rfl info_cl ?_)
              | (refine load_w 31 (.tmp 12) rfl X rfl rfl q.arr 13 (kept_at k1 HX.out) Try.underlying31 rfl info_cl ?_))
            go_ret
            exact ⟨rfl, ((HB.out.bl.kept.trans k1).trans k2).trans k3⟩
          · subst e
            clear hE HEAR
            go_wp2_with (first
              | (go_at_call 12; refine (L1.out _).mono ?_; rintro e u2 ⟨rfl, k2⟩)
              | (go_at_call 6; refine (AW.out _).mono ?_; rintro e u3 ⟨rfl, k3⟩)
              | (refine load_w 31 (.tmp 12) rfl X rfl rfl q.arr 13 HX.out Try.underlying31 rfl info_cl ?_))
            go_ret
            exact ⟨rfl, (HB.out.bl.kept.trans k2).trans k3⟩

end Go.Proofs.Ytpicjcophjekpaa.Cl
