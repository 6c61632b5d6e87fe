/- The law: who must stop now is at, or behind, the time at which it ends; more heard never ends it sooner. -/
import Derived.Test.YtplkhinjlgmilaaOwG
import Derived.Test.YtplkhinjlgmilaaOwF
namespace Go.Proofs.Ytplkhinjlgmilaa.Ow
open Go.RowKit Go.Sort Go.Shelf St Blk Eqs
open Go.Proofs.Ytplkhinjlgmilaa.Cl
open Go.Proofs.Ytplkhinjlgmilaa.Ls
open Go.Proofs.Ytplkhinjlgmilaa.Rv
open Go.Proofs.Ytplkhinjlgmilaa.Id (quiet_at)
open Go.Proofs.Ytplkhinjlgmilaa.Ad (load_w load_l store_new)
set_option linter.unusedVariables false

theorem ends_hi (o : Ow) : endsO o ≤ 1125899906842624 := by
  unfold endsO Le.ends
  have := Tk.clamp_hi o.dl
  omega
theorem ends_more (o : Ow) (h : Int) : endsO o ≤ endsO { o with un := max o.un h } := by
  unfold endsO Le.ends until'
  simp only
  have := Tk.clamp_mono (show o.un ≤ max o.un h by omega)
  split
  · exact Int.le_refl _
  · omega
theorem until_same (o : Ow) : until' o = until' o := rfl

set_option maxRecDepth 100000 in
set_option maxHeartbeats 4000000 in
theorem stops_any {w : World} {q : Option Addr} {N c : Nat} {K : List Cl} (o : Ow) (hv : Cls w (.slice q N c) K) (t h : Int) :
    Calls Try.prog 6 #[.agg (o.arr q N c), .int .i64 t, .int .i64 h] w fun e w' => e = .returned (.bool true) ∧ Kept w w' := by
  have hN : K.length = N := by obtain ⟨p, cap, e⟩ := hv.shape; cases e; rfl
  obtain ⟨A, hA⟩ : ∃ A, o.arr q N c = A := ⟨_, rfl⟩
  have c18 : A[18]? = some (.slice q N c) := by rw [← hA]; rfl
  have sA : A.size = 19 := by rw [← hA]; rfl
  obtain ⟨W, hW⟩ : ∃ W, w.alloc (.cells A 28) = W := ⟨_, rfl⟩
  have hb : Bl w W [(A, 28)] := hW ▸ Bl.one w A _
  have h18 : W.cell? ⟨w.heap.size, 18, none⟩ = some (.slice q N c) := (hb.cell 0 18 rfl).trans c18
  have la := load_row (hb.blk 0 rfl) sA
  have HW := Lib.hid hW
  have HK := Lib.hid hb.kept
  have HAW := Lib.hid awake_any
  rw [hA]
  by_cases h30 : N ≤ 30
  · have h30' : ¬ 30 < (N : Int) := by omega
    have CM := Lib.hid (mine_any o (hv.go hb.kept) (by omega))
    rw [hA] at CM
    obtain ⟨g, hg⟩ : ∃ g, (overO o t != 0) = g := ⟨_, rfl⟩
    obtain ⟨z, hz⟩ : ∃ z, overO o t = z := ⟨_, rfl⟩
    obtain ⟨m, hm⟩ : ∃ m, max o.un h = m := ⟨_, rfl⟩
    obtain ⟨ex, hex⟩ : ∃ e, endsO o = e := ⟨_, rfl⟩
    obtain ⟨ey, hey⟩ : ∃ e, endsO { o with un := m } = e := ⟨_, rfl⟩
    obtain ⟨ct, hct⟩ : ∃ e, Tk.clamp t = e := ⟨_, rfl⟩
    have hmore : ex ≤ ey := by rw [← hex, ← hey, ← hm]; exact ends_more o h
    have hgv : g = decide (ex ≤ ct) := by
      rw [← hg, ← hex, ← hct]
      by_cases he : endsO o ≤ Tk.clamp t
      · rw [decide_eq_true he]; exact Le.over_yes he
      · rw [decide_eq_false he]; exact Le.over_no he
    have hlast : ct = 1125899906842624 → ex ≤ ct := fun e => by rw [e, ← hex]; exact ends_hi o
    have CO := Lib.hid (fun q c u => over_any o q N c t u)
    have CT := Lib.hid (show ∀ u, Calls Try.prog 34 #[.int .i64 t] u fun e w' => e = .returned (.int .i64 ct) ∧ Kept u w' from fun u => by rw [← hct]; exact (Tk.rclamp_any t u).mono fun e w' h => ⟨h.1, h.2 ▸ Kept.refl _⟩)
    rw [hg, hz] at CO
    clear hv hb hW c18 hz hg hct
    go_enter Try.func6, Try.ntmps6
    go_upto_region 1 with fail
    rw [HW.out]
    go_upto_region 4 with (first
      | (refine load_l 28 (.tmp 3) rfl _ rfl rfl (.agg A) la ?_)
      | (go_at_call 9; refine CM.out.mono ?_; rintro e u1 ⟨q1, n1, c1, rfl, r1, -, k1⟩; obtain rfl : n1 = N := ((mc_len r1).symm.trans hN); obtain ⟨E, hE⟩ : ∃ E, o.arr q1 n1 c1 = E := ⟨_, rfl⟩; rw [hE]; have sE : E.size = 19 := (by rw [← hE]; rfl); have oE : E.all (·.oneCell') = true := (by rw [← hE]; exact arr_one _ _ _ _))
      | (refine store_new rfl 34 (.tmp 7) (.tmp 18) rfl u1.heap.size E rfl rfl _ _ rfl 19 info_ow sE rfl oE ?_))
    obtain ⟨u2, hu2⟩ : ∃ u2, u1.alloc (.cells E 34) = u2 := ⟨_, rfl⟩
    rw [hu2]
    have b7 : u2.heap[u1.heap.size]? = some (.cells E 34 (0, 0)) := by rw [← hu2]; exact blk_new u1 _
    have k2 : Kept w u2 := (HK.out.trans k1).trans (by rw [← hu2]; exact Kept.one _ _)
    obtain ⟨B7, hB7⟩ : ∃ B, u1.heap.size = B := ⟨_, rfl⟩
    rw [hB7] at b7 ⊢
    have l7 := load_ow b7 sE
    have CO1 := Lib.hid (show ∀ u, Calls Try.prog 10 #[.agg E, .int .i64 t] u fun e w' => e = .returned (.tuple #[.int .i64 z, .bool g]) ∧ Kept u w' from fun u => by have := CO.out q1 c1 u; rw [hE] at this; exact this)
    clear hu2 CM r1
    go_upto_region 5 with (first
      | (refine load_l 34 (.tmp 7) rfl _ rfl rfl (.agg E) l7 ?_)
      | (go_at_call 10; refine (CO1.out _).mono ?_; rintro e u3 ⟨rfl, k3⟩; have b73 := kept_at k3 b7; have l73 := load_ow b73 sE))
    obtain ⟨u4, hu4⟩ : ∃ u4, u3.alloc (.cells E 34) = u4 := ⟨_, rfl⟩
    have b10 : u4.heap[u3.heap.size]? = some (.cells E 34 (0, 0)) := by rw [← hu4]; exact blk_new u3 _
    have k34 : Kept u3 u4 := by rw [← hu4]; exact Kept.one _ _
    have b74 := kept_at k34 b73
    have hlt : B7 < u3.heap.size := blk_lt b73
    obtain ⟨B10, hB10⟩ : ∃ B, u3.heap.size = B := ⟨_, rfl⟩
    have HU4 := Lib.hid hu4
    rw [hB10] at b10 hlt
    have x14 : u4.cell? ⟨B7, 14, none⟩ = some (.int .i64 o.un) := (blk_cell b74 14).trans (by rw [← hE]; rfl)
    have y14 : u4.cell? ⟨B10, 14, none⟩ = some (.int .i64 o.un) := (blk_cell b10 14).trans (by rw [← hE]; rfl)
    have f14 : u4.frozen? ⟨B10, 14, none⟩ = false := blk_free b10 14
    go_upto_region 6 with (first
      | (refine load_l 34 (.tmp 7) rfl _ rfl rfl (.agg E) l73 ?_)
      | (refine store_new rfl 34 (.tmp 10) (.tmp 25) rfl B10 E rfl rfl u3 _ hB10 19 info_ow sE rfl oE ?_; rw [HU4.out]))
    obtain ⟨Y, hY⟩ : ∃ Y, ({ o with un := m } : Ow).arr q1 n1 c1 = Y := ⟨_, rfl⟩
    have eY : E.setIfInBounds 14 (.int .i64 m) = Y := by rw [← hE, ← hY]; rfl
    have sY : Y.size = 19 := by rw [← hY]; rfl
    obtain ⟨u5, hu5⟩ : ∃ u5, u4.setCell ⟨B10, 14, none⟩ (.int .i64 m) = u5 := ⟨_, rfl⟩
    have b105 : u5.heap[B10]? = some (.cells Y 34 (0, 0)) := by rw [← hu5, ← eY]; exact blk_set b10 14 _
    have b75 : u5.heap[B7]? = some (.cells E 34 (0, 0)) := by rw [← hu5]; exact (Below.heap_setCell _ _ _ _ (by show B7 ≠ B10; omega)).trans b74
    have k5 : Kept w u5 := by
      have h1 : Kept w u4 := (k2.trans k3).trans k34
      rw [← hu5]
      have : w.heap.size ≤ B10 := by have := Below.size (k2.trans k3); omega
      exact Below.setCell h1 this _
    have HU5 := Lib.hid hu5
    obtain ⟨x0, hx0⟩ : ∃ x, o.un = x := ⟨_, rfl⟩
    rw [hx0] at x14 y14 hm
    clear hu4 hu5 hx0 b10 b74 k34 b73 eY
    go_upto_region 7 with fail
    rw [HU5.out]
    have HK5 := Lib.hid k5
    have lE := loadA_regrown b75 Try.underlying34 (by rw [sE]; exact info_ow)
    have lY := loadA_regrown b105 Try.underlying34 (by rw [sY]; exact info_ow)
    have q1f : ∀ u, Calls Try.prog 11 #[.agg E] u fun e w' => e = .returned (.int .i64 ex) ∧ Kept u w' := fun u => by rw [← hE, ← hex]; exact ends_any o q1 n1 c1 u
    have q2f : ∀ u, Calls Try.prog 11 #[.agg Y] u fun e w' => e = .returned (.int .i64 ey) ∧ Kept u w' := fun u => by rw [← hY, ← hey]; exact ends_any _ q1 n1 c1 u
    obtain ⟨zr, hzr⟩ : ∃ z, (o.ka == 0) = z := ⟨_, rfl⟩
    have q3f : ∀ u, Calls Try.prog 29 #[.agg E] u fun e w' => e = .returned (.bool zr) ∧ Kept u w' := fun u => by rw [← hE, ← hzr]; exact isroot_any o q1 n1 c1 u
    have F1 := Lib.hid q1f
    have F2 := Lib.hid q2f
    have F3 := Lib.hid q3f
    have B75 := Lib.hid b75
    have B105 := Lib.hid b105
    have Q1 := quiet_at (Kept.refl u5) (fun x _ => q1f x)
    have Q4 := quiet_at (Kept.refl u5) (fun x _ => CT.out x)
    clear q1f q2f q3f b75 b105 k5 HU5 hzr l73 l7 b7 k3 k2 x14 y14 f14
    subst hgv
    go_cut [11] (fun tt wx => tt = .bool (decide (ex ≤ ct)) ∧ ∃ p : Regrown, wx = grow (redrawn u5 p.d) p.os)
    case first =>
      refine wp_region_quiet_below (by kernel_rfl) (by kernel_rfl) ?_
      repeat (first
        | (go_big_quiet_want; refine Ad.quiet_row 34 (.tmp 7) rfl B7 rfl E lE.out ?_; simp only [Act.put, List.setIfInBounds_toArray, List.set_cons_succ, List.set_cons_zero]; go_big_quiet_on)
        | go_big_quiet_step (first | (with_reducible exact Q1.out _) | (with_reducible exact Q4.out _)))
      refine wpQuiet_nil ?_
      intro _ hw'
      go_wp2_with fail
      go_meet
      exact ⟨rfl, hw'⟩
    case rest =>
      obtain ⟨rfl, ⟨dq, osq⟩, hwc⟩ := hcut
      have kU := below_regrown u5 dq osq
      obtain ⟨u6, hu6⟩ : ∃ u6, grow (redrawn u5 dq) osq = u6 := ⟨_, rfl⟩
      rw [hu6] at hwc kU
      rw [hwc]
      have HK6 := Lib.hid (HK5.out.trans kU)
      have b7 := kept_at kU B75.out
      have b10 := kept_at kU B105.out
      have lE := loadA_regrown b7 Try.underlying34 (by rw [sE]; exact info_ow)
      have lY := loadA_regrown b10 Try.underlying34 (by rw [sY]; exact info_ow)
      have Q1 := quiet_at (Kept.refl u6) (fun x _ => F1.out x)
      have Q2 := quiet_at (Kept.refl u6) (fun x _ => F2.out x)
      have Q3 := quiet_at (Kept.refl u6) (fun x _ => F3.out x)
      have Q4 := quiet_at (Kept.refl u6) (fun x _ => CT.out x)
      have Q5 := quiet_at (Kept.refl u6) (fun x _ => HAW.out x)
      have hgeq : decide (ex ≤ ey) = true := decide_eq_true hmore
      clear hwc kU b7 b10 hu6
      go_upto_region 8 with fail
      by_cases hae : ex ≤ ct
      · have hd : decide (ex ≤ ct) = true := decide_eq_true hae
        rw [hd]
        clear hlast
        refine wp_region_quiet_below (by kernel_rfl) (by kernel_rfl) ?_
        repeat (first
          | go_big_quiet_skip
          | (go_big_quiet_want; refine Ad.quiet_row 34 (.tmp 10) rfl B10 rfl Y lY.out ?_; simp only [Act.put, List.setIfInBounds_toArray, List.set_cons_succ, List.set_cons_zero]; go_big_quiet_on)
          | (go_big_quiet_want; refine Ad.quiet_row 34 (.tmp 7) rfl B7 rfl E lE.out ?_; simp only [Act.put, List.setIfInBounds_toArray, List.set_cons_succ, List.set_cons_zero]; go_big_quiet_on)
          | go_big_quiet_step (first | (with_reducible exact Q1.out _) | (with_reducible exact Q2.out _) | (with_reducible exact Q5.out _)))
        refine wpQuiet_nil ?_
        intro _ hw'
        obtain ⟨⟨dq2, osq2⟩, hw''⟩ := hw'
        subst hw''
        go_wp2_with fail
        go_ret
        exact ⟨rfl, HK6.out.trans (below_regrown u6 dq2 osq2)⟩
      · have hd : decide (ex ≤ ct) = false := decide_eq_false hae
        have hnm : (ct == 1125899906842624) = false := beq_eq_false_iff_ne.2 (fun e => hae (hlast e))
        rw [hd]
        clear hlast hae
        cases zr
        all_goals
          refine wp_region_quiet_below (by kernel_rfl) (by kernel_rfl) ?_
          repeat (first
            | go_big_quiet_skip
            | (go_big_quiet_want; refine Ad.quiet_row 34 (.tmp 10) rfl B10 rfl Y lY.out ?_; simp only [Act.put, List.setIfInBounds_toArray, List.set_cons_succ, List.set_cons_zero]; go_big_quiet_on)
            | (go_big_quiet_want; refine Ad.quiet_row 34 (.tmp 7) rfl B7 rfl E lE.out ?_; simp only [Act.put, List.setIfInBounds_toArray, List.set_cons_succ, List.set_cons_zero]; go_big_quiet_on)
            | go_big_quiet_step (first | (with_reducible exact Q1.out _) | (with_reducible exact Q2.out _) | (with_reducible exact Q3.out _) | (with_reducible exact Q4.out _) | (with_reducible exact Q5.out _)))
          refine wpQuiet_nil ?_
          intro _ hw'
          obtain ⟨⟨dq2, osq2⟩, hw''⟩ := hw'
          subst hw''
          go_wp2_with fail
          go_ret
          exact ⟨rfl, HK6.out.trans (below_regrown u6 dq2 osq2)⟩
  · have h30' : 30 < (N : Int) := by omega
    clear hv hb hW c18 hA h30
    go_enter Try.func6, Try.ntmps6
    go_upto_region 1 with fail
    rw [HW.out]
    go_wp2_with (go_at_call 8; refine (HAW.out _).mono ?_; rintro e w' ⟨rfl, hk⟩)
    go_ret
    exact ⟨rfl, HK.out.trans hk⟩

end Go.Proofs.Ytplkhinjlgmilaa.Ow
