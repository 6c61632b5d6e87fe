/- What a deed does to a call, in the program. -/
import Derived.Test.YtpicjcophjekpaaClD
namespace Go.Proofs.Ytpicjcophjekpaa.Cl
open Go.RowKit Go.Sort St Ad Po Blk
set_option linter.unusedVariables false

set_option maxRecDepth 100000 in
set_option maxHeartbeats 4000000 in
theorem step_any (c : Cl) (hc : c.Fit) (g : Cf) (d : De) (w : World) : Calls Try.prog 7 #[.agg c.arr, .agg g.arr, .agg d.arr] w fun e w' => e = .returned (.tuple #[.agg (stp c g d).1.arr, .int .i64 (stp c g d).2]) ∧ Kept w w' := by
  obtain ⟨W, hW, hB⟩ : ∃ W, (((w.alloc (.cells c.arr 31)).alloc (.cells g.arr 28)).alloc (.cells d.arr 37)).alloc (.cells #[.int .i64 0, .int .i64 0, .int .i64 0, .int .i64 0, .int .i64 0, .int .i64 0, .int .i64 0, .int .i64 0, .int .i64 0, .bool false, .int .i64 0, .int .i64 0, .int .i64 0] 31) = W ∧ Bl w W [(c.arr, 31), (g.arr, 28), (d.arr, 37), (#[.int .i64 0, .int .i64 0, .int .i64 0, .int .i64 0, .int .i64 0, .int .i64 0, .int .i64 0, .int .i64 0, .int .i64 0, .bool false, .int .i64 0, .int .i64 0, .int .i64 0], 31)] := ⟨_, rfl, Bl.start [(_, _), (_, _), (_, _), (_, _)] w⟩
  have HW := Lib.hid hW
  have HB := Lib.hid hB
  clear hW
  have x1 : W.cell? ⟨w.heap.size + 1 + 1, 1, none⟩ = some (.int .i64 d.n) := hB.cell 2 1 rfl
  have hx0 : W.cell? ⟨w.heap.size + 1 + 1, 0, none⟩ = some (.int .i64 d.k) := hB.cell 2 0 rfl
  clear hB
  by_cases h : d.k = 0
  · have x0 := hx0
    rw [h] at x0
    clear hx0
    have HR := Lib.hid (stp_0 (by omega) : stp c g d = _)
    obtain ⟨r, hr⟩ : ∃ r, begin c d.n = r := ⟨_, rfl⟩
    rw [hr] at HR
    have C1 := Lib.hid (show ∀ u, Calls Try.prog 16 #[.agg c.arr, .int .i64 d.n] u fun e w' => e = .returned (.agg r.arr) ∧ Kept u w' from fun u => by rw [← hr]; exact begin_any c hc d.n u)
    clear hr hc h
    go_enter Try.func7, Try.ntmps7
    go_upto_region 1 with fail
    rw [HW.out]
    go_upto_region 18 with (first
      | (go_at_call 16; refine (C1.out _).mono ?_; rintro e u ⟨rfl, hk⟩)
      | (refine load_w 31 (.tmp 3) rfl w.heap.size rfl rfl c.arr 13 (HB.out.blk 0 rfl) Try.underlying31 rfl info_cl ?_)
      | (refine wpList_store_row rfl 31 (.tmp 3) (.tmp 18) rfl w.heap.size _ rfl rfl 31 _ ((HB.out.go hk).blk 0 rfl) info_cl rfl (by kernel_rfl) ?_))
    have hX := (HB.out.go hk).row 0 rfl r.arr
    obtain ⟨V, hV⟩ : ∃ V, u.setRow w.heap.size r.arr = V := ⟨_, rfl⟩
    rw [show u.setRow (w.heap.size + 0) r.arr = V from hV] at hX
    rw [hV]
    have HX := Lib.hid hX
    clear hk hV hX x0 x1
    go_wp2_with (first | (refine load_w 31 (.tmp 3) rfl w.heap.size rfl rfl r.arr 13 (HX.out.blk 0 rfl) Try.underlying31 rfl info_cl ?_) | (refine wpList_store_row rfl 31 (.tmp 6) (.tmp 48) rfl (w.heap.size + 1 + 1 + 1) _ rfl rfl 31 _ (HX.out.blk 3 rfl) info_cl rfl (by kernel_rfl) ?_))
    refine bodyPost_ret (Rw.results_row_tmp rfl _ _ (w.heap.size + 3) 31 _ (0, 0) _ rfl ((HX.out.row 3 rfl _).blk 3 rfl) Try.underlying31 rfl info_cl) rfl ⟨by rw [HR.out]; rfl, (HX.out.row 3 rfl _).kept⟩
  have h0 := h
  clear h
  by_cases h : d.k = 1
  · have x0 := hx0
    rw [h] at x0
    clear hx0
    have HR := Lib.hid (stp_0 (by omega) : stp c g d = _)
    obtain ⟨r, hr⟩ : ∃ r, begin c d.n = r := ⟨_, rfl⟩
    rw [hr] at HR
    have C1 := Lib.hid (show ∀ u, Calls Try.prog 16 #[.agg c.arr, .int .i64 d.n] u fun e w' => e = .returned (.agg r.arr) ∧ Kept u w' from fun u => by rw [← hr]; exact begin_any c hc d.n u)
    clear hr hc h
    go_enter Try.func7, Try.ntmps7
    go_upto_region 1 with fail
    rw [HW.out]
    go_upto_region 18 with (first
      | (go_at_call 16; refine (C1.out _).mono ?_; rintro e u ⟨rfl, hk⟩)
      | (refine load_w 31 (.tmp 3) rfl w.heap.size rfl rfl c.arr 13 (HB.out.blk 0 rfl) Try.underlying31 rfl info_cl ?_)
      | (refine wpList_store_row rfl 31 (.tmp 3) (.tmp 18) rfl w.heap.size _ rfl rfl 31 _ ((HB.out.go hk).blk 0 rfl) info_cl rfl (by kernel_rfl) ?_))
    have hX := (HB.out.go hk).row 0 rfl r.arr
    obtain ⟨V, hV⟩ : ∃ V, u.setRow w.heap.size r.arr = V := ⟨_, rfl⟩
    rw [show u.setRow (w.heap.size + 0) r.arr = V from hV] at hX
    rw [hV]
    have HX := Lib.hid hX
    clear hk hV hX x0 x1
    go_wp2_with (first | (refine load_w 31 (.tmp 3) rfl w.heap.size rfl rfl r.arr 13 (HX.out.blk 0 rfl) Try.underlying31 rfl info_cl ?_) | (refine wpList_store_row rfl 31 (.tmp 6) (.tmp 48) rfl (w.heap.size + 1 + 1 + 1) _ rfl rfl 31 _ (HX.out.blk 3 rfl) info_cl rfl (by kernel_rfl) ?_))
    refine bodyPost_ret (Rw.results_row_tmp rfl _ _ (w.heap.size + 3) 31 _ (0, 0) _ rfl ((HX.out.row 3 rfl _).blk 3 rfl) Try.underlying31 rfl info_cl) rfl ⟨by rw [HR.out]; rfl, (HX.out.row 3 rfl _).kept⟩
  have h1 := h
  clear h
  by_cases h : d.k = 2
  · have x0 := hx0
    rw [h] at x0
    clear hx0
    have HR := Lib.hid (stp_0 (by omega) : stp c g d = _)
    obtain ⟨r, hr⟩ : ∃ r, begin c d.n = r := ⟨_, rfl⟩
    rw [hr] at HR
    have C1 := Lib.hid (show ∀ u, Calls Try.prog 16 #[.agg c.arr, .int .i64 d.n] u fun e w' => e = .returned (.agg r.arr) ∧ Kept u w' from fun u => by rw [← hr]; exact begin_any c hc d.n u)
    clear hr hc h
    go_enter Try.func7, Try.ntmps7
    go_upto_region 1 with fail
    rw [HW.out]
    go_upto_region 18 with (first
      | (go_at_call 16; refine (C1.out _).mono ?_; rintro e u ⟨rfl, hk⟩)
      | (refine load_w 31 (.tmp 3) rfl w.heap.size rfl rfl c.arr 13 (HB.out.blk 0 rfl) Try.underlying31 rfl info_cl ?_)
      | (refine wpList_store_row rfl 31 (.tmp 3) (.tmp 18) rfl w.heap.size _ rfl rfl 31 _ ((HB.out.go hk).blk 0 rfl) info_cl rfl (by kernel_rfl) ?_))
    have hX := (HB.out.go hk).row 0 rfl r.arr
    obtain ⟨V, hV⟩ : ∃ V, u.setRow w.heap.size r.arr = V := ⟨_, rfl⟩
    rw [show u.setRow (w.heap.size + 0) r.arr = V from hV] at hX
    rw [hV]
    have HX := Lib.hid hX
    clear hk hV hX x0 x1
    go_wp2_with (first | (refine load_w 31 (.tmp 3) rfl w.heap.size rfl rfl r.arr 13 (HX.out.blk 0 rfl) Try.underlying31 rfl info_cl ?_) | (refine wpList_store_row rfl 31 (.tmp 6) (.tmp 48) rfl (w.heap.size + 1 + 1 + 1) _ rfl rfl 31 _ (HX.out.blk 3 rfl) info_cl rfl (by kernel_rfl) ?_))
    refine bodyPost_ret (Rw.results_row_tmp rfl _ _ (w.heap.size + 3) 31 _ (0, 0) _ rfl ((HX.out.row 3 rfl _).blk 3 rfl) Try.underlying31 rfl info_cl) rfl ⟨by rw [HR.out]; rfl, (HX.out.row 3 rfl _).kept⟩
  have h2 := h
  clear h
  by_cases h : d.k = 3
  · have x0 := hx0
    rw [h] at x0
    clear hx0 h0 h1 h2
    have HR := Lib.hid (stp_3 h : stp c g d = _)
    obtain ⟨r, hr⟩ : ∃ r, good c d.n = r := ⟨_, rfl⟩
    rw [hr] at HR
    have C1 := Lib.hid (show ∀ u, Calls Try.prog 21 #[.agg c.arr, .int .i64 d.n] u fun e w' => e = .returned (.agg r.arr) ∧ Kept u w' from fun u => by rw [← hr]; exact good_any c d.n u)
    clear hr hc h
    go_enter Try.func7, Try.ntmps7
    go_upto_region 1 with fail
    rw [HW.out]
    go_upto_region 18 with (first
      | (go_at_call 21; refine (C1.out _).mono ?_; rintro e u ⟨rfl, hk⟩)
      | (refine load_w 31 (.tmp 3) rfl w.heap.size rfl rfl c.arr 13 (HB.out.blk 0 rfl) Try.underlying31 rfl info_cl ?_)
      | (refine wpList_store_row rfl 31 (.tmp 3) (.tmp 24) rfl w.heap.size _ rfl rfl 31 _ ((HB.out.go hk).blk 0 rfl) info_cl rfl (by kernel_rfl) ?_))
    have hX := (HB.out.go hk).row 0 rfl r.arr
    obtain ⟨V, hV⟩ : ∃ V, u.setRow w.heap.size r.arr = V := ⟨_, rfl⟩
    rw [show u.setRow (w.heap.size + 0) r.arr = V from hV] at hX
    rw [hV]
    have HX := Lib.hid hX
    clear hk hV hX x0 x1
    go_wp2_with (first | (refine load_w 31 (.tmp 3) rfl w.heap.size rfl rfl r.arr 13 (HX.out.blk 0 rfl) Try.underlying31 rfl info_cl ?_) | (refine wpList_store_row rfl 31 (.tmp 6) (.tmp 48) rfl (w.heap.size + 1 + 1 + 1) _ rfl rfl 31 _ (HX.out.blk 3 rfl) info_cl rfl (by kernel_rfl) ?_))
    refine bodyPost_ret (Rw.results_row_tmp rfl _ _ (w.heap.size + 3) 31 _ (0, 0) _ rfl ((HX.out.row 3 rfl _).blk 3 rfl) Try.underlying31 rfl info_cl) rfl ⟨by rw [HR.out]; rfl, (HX.out.row 3 rfl _).kept⟩
  have h3 := h
  clear h
  by_cases h : d.k = 4
  · have x0 := hx0
    rw [h] at x0
    clear hx0 h0 h1 h2 h3
    have HR := Lib.hid (stp_4 h : stp c g d = _)
    obtain ⟨r, hr⟩ : ∃ r, taken c = r := ⟨_, rfl⟩
    rw [hr] at HR
    have C1 := Lib.hid (show ∀ u, Calls Try.prog 22 #[.agg c.arr] u fun e w' => e = .returned (.agg r.arr) ∧ Kept u w' from fun u => by rw [← hr]; exact taken_any c u)
    clear hr hc h
    go_enter Try.func7, Try.ntmps7
    go_upto_region 1 with fail
    rw [HW.out]
    go_upto_region 18 with (first
      | (go_at_call 22; refine (C1.out _).mono ?_; rintro e u ⟨rfl, hk⟩)
      | (refine load_w 31 (.tmp 3) rfl w.heap.size rfl rfl c.arr 13 (HB.out.blk 0 rfl) Try.underlying31 rfl info_cl ?_)
      | (refine wpList_store_row rfl 31 (.tmp 3) (.tmp 28) rfl w.heap.size _ rfl rfl 31 _ ((HB.out.go hk).blk 0 rfl) info_cl rfl (by kernel_rfl) ?_))
    have hX := (HB.out.go hk).row 0 rfl r.arr
    obtain ⟨V, hV⟩ : ∃ V, u.setRow w.heap.size r.arr = V := ⟨_, rfl⟩
    rw [show u.setRow (w.heap.size + 0) r.arr = V from hV] at hX
    rw [hV]
    have HX := Lib.hid hX
    clear hk hV hX x0 x1
    go_wp2_with (first | (refine load_w 31 (.tmp 3) rfl w.heap.size rfl rfl r.arr 13 (HX.out.blk 0 rfl) Try.underlying31 rfl info_cl ?_) | (refine wpList_store_row rfl 31 (.tmp 6) (.tmp 48) rfl (w.heap.size + 1 + 1 + 1) _ rfl rfl 31 _ (HX.out.blk 3 rfl) info_cl rfl (by kernel_rfl) ?_))
    refine bodyPost_ret (Rw.results_row_tmp rfl _ _ (w.heap.size + 3) 31 _ (0, 0) _ rfl ((HX.out.row 3 rfl _).blk 3 rfl) Try.underlying31 rfl info_cl) rfl ⟨by rw [HR.out]; rfl, (HX.out.row 3 rfl _).kept⟩
  have h4 := h
  clear h
  by_cases h : d.k = 5
  · have x0 := hx0
    rw [h] at x0
    have HR := Lib.hid (stp_5 (by omega) : stp c g d = _)
    have q := bad_any c g d.f hc.1.2
    obtain ⟨r, y, hr⟩ : ∃ r y, bad c g d.f = (r, y) := ⟨_, _, rfl⟩
    rw [hr] at HR q
    have C1 := Lib.hid q
    clear hx0 h0 h1 h2 h3 h4 hr hc h q
    go_enter Try.func7, Try.ntmps7
    go_upto_region 1 with fail
    rw [HW.out]
    go_upto_region 15 with fail
    refine Hg.region_g 9 (fun w' => Bl w w' [(c.arr, 31), (g.arr, 28), (d.arr, 37), (#[.int .i64 0, .int .i64 0, .int .i64 0, .int .i64 0, .int .i64 0, .int .i64 0, .int .i64 0, .int .i64 0, .int .i64 0, .bool false, .int .i64 0, .int .i64 0, .int .i64 0], 31)]) (by kernel_rfl) (HB.out.go (Kept.refl _).drew) (fun hHeld => ?_)
    have hD := hHeld
    clear hD
    refine Hg.take_b 0 (some 34) rfl rfl (by kernel_rfl) (by kernel_rfl) (by kernel_rfl) (by kernel_rfl) (fun _ _ _ h => h) (Hg.yields_row 31 (.tmp 3) rfl w.heap.size 0 rfl rfl (fun u hu => run_loadVar_row _ w.heap.size _ _ c.arr (0, 0) _ (hu.blk 0 rfl) Try.underlying31 rfl info_cl)) hHeld ?_
    simp only [Act.put, List.setIfInBounds_toArray, List.set_cons_zero, List.set_cons_succ]
    refine Hg.take_b 1 (some 35) rfl rfl (by kernel_rfl) (by kernel_rfl) (by kernel_rfl) (by kernel_rfl) (fun _ _ _ h => h) (Hg.yields_row 28 (.tmp 4) rfl (w.heap.size + 1) 0 rfl rfl (fun u hu => run_loadVar_row _ (w.heap.size + 1) _ _ g.arr (0, 0) _ (hu.blk 1 rfl) Try.underlying28 rfl info_cf)) hHeld ?_
    simp only [Act.put, List.setIfInBounds_toArray, List.set_cons_zero, List.set_cons_succ]
    refine Hg.take_b 2 (some 36) (v := ?_) rfl rfl (by kernel_rfl) (by kernel_rfl) (by kernel_rfl) (by kernel_rfl) (fun _ _ _ h => h) (Or.inl ⟨by rfl, ?_⟩) hHeld ?_
    rotate_left
    · (intro w hSw; go_simp; try with_reducible rfl)
    simp only [Act.put, List.setIfInBounds_toArray, List.set_cons_zero, List.set_cons_succ]
    refine Hg.take_b 3 (some 37) rfl rfl (by kernel_rfl) (by kernel_rfl) (by kernel_rfl) (by kernel_rfl) (fun _ _ _ h => h) (Hg.yields_row 35 (.tmp 36) rfl (w.heap.size + 1 + 1) 2 rfl rfl (fun u hu => load_facts (facts_at hu 2 rfl))) hHeld ?_
    simp only [Act.put, List.setIfInBounds_toArray, List.set_cons_zero, List.set_cons_succ]
    refine Hg.step_b 4 rfl (by kernel_rfl) (fun K hK => ?_)
    go_simp
    refine (mine_any d.f _).mono ?_
    rintro e u1 ⟨rfl, k1⟩
    go_wp2_with fail
    have hHeld := hHeld.go k1
    refine hK.out _ _ hHeld ?_
    clear hK K
    refine Hg.step_b 5 rfl (by kernel_rfl) (fun K hK => ?_)
    go_simp
    refine (C1.out _).mono ?_
    rintro e u2 ⟨rfl, k2⟩
    go_wp2_with fail
    have hHeld := hHeld.go k2
    refine hK.out _ _ hHeld ?_
    clear hK K
    refine Hg.take_b 6 (some 33) (v := ?_) rfl rfl (by kernel_rfl) (by kernel_rfl) (by kernel_rfl) (by kernel_rfl) (fun _ _ _ h => h) (Or.inl ⟨by rfl, ?_⟩) hHeld ?_
    rotate_left
    · (intro w hSw; go_simp; try with_reducible rfl)
    simp only [Act.put, List.setIfInBounds_toArray, List.set_cons_zero, List.set_cons_succ]
    refine Hg.take_b 7 (some 40) (v := ?_) rfl rfl (by kernel_rfl) (by kernel_rfl) (by kernel_rfl) (by kernel_rfl) (fun _ _ _ h => h) (Or.inl ⟨by rfl, ?_⟩) hHeld ?_
    rotate_left
    · (intro w hSw; go_simp; try with_reducible rfl)
    simp only [Act.put, List.setIfInBounds_toArray, List.set_cons_zero, List.set_cons_succ]
    refine Hg.take_p 8 (some 41) (v := ?_) rfl rfl (by kernel_rfl) (by kernel_rfl) (by kernel_rfl) (by kernel_rfl) (fun _ _ _ h => h) (Or.inl ⟨by rfl, ?_⟩) (fun _ => hHeld) ?_
    rotate_left
    · (intro w hSw; clear hSw; go_simp; try with_reducible rfl)
    simp only [Act.put, List.setIfInBounds_toArray, List.set_cons_zero, List.set_cons_succ]
    refine Hg.store_s 9 31 (.tmp 3) (.tmp 40) rfl (by kernel_rfl) (by kernel_rfl) rfl rfl rfl w.heap.size r.arr rfl rfl 31 _ (hHeld.blk 0 rfl) info_cl rfl (by kernel_rfl) ?_
    refine Hg.take_p 10 (some 8) (v := ?_) rfl rfl (by kernel_rfl) (by kernel_rfl) (by kernel_rfl) (by kernel_rfl) (fun _ _ _ h => h) (Or.inl ⟨by rfl, ?_⟩) (fun h => by have h2 : true = false := h; cases h2) ?_
    rotate_left
    · (intro w hSw; clear hSw; go_simp; try with_reducible rfl)
    simp only [Act.put, List.setIfInBounds_toArray, List.set_cons_zero, List.set_cons_succ]
    refine Hg.done_g (by kernel_rfl) ?_
    have hX := hHeld.row 0 rfl r.arr
    obtain ⟨V, hV⟩ : ∃ V, u2.setRow w.heap.size r.arr = V := ⟨_, rfl⟩
    rw [show u2.setRow (w.heap.size + 0) r.arr = V from hV] at hX
    rw [hV]
    have HX := Lib.hid hX
    clear hV hX hHeld k1 k2 x0 x1
    go_wp2_with (first | (refine load_w 31 (.tmp 3) rfl w.heap.size rfl rfl r.arr 13 (HX.out.blk 0 rfl) Try.underlying31 rfl info_cl ?_) | (refine wpList_store_row rfl 31 (.tmp 6) (.tmp 48) rfl (w.heap.size + 1 + 1 + 1) _ rfl rfl 31 _ (HX.out.blk 3 rfl) info_cl rfl (by kernel_rfl) ?_))
    refine bodyPost_ret (Rw.results_row_tmp rfl _ _ (w.heap.size + 3) 31 _ (0, 0) _ rfl ((HX.out.row 3 rfl _).blk 3 rfl) Try.underlying31 rfl info_cl) rfl ⟨by rw [HR.out]; rfl, (HX.out.row 3 rfl _).kept⟩
  have h5 := h
  clear h
  by_cases h : d.k = 6
  · have x0 := hx0
    rw [h] at x0
    have HR := Lib.hid (stp_5 (by omega) : stp c g d = _)
    have q := bad_any c g d.f hc.1.2
    obtain ⟨r, y, hr⟩ : ∃ r y, bad c g d.f = (r, y) := ⟨_, _, rfl⟩
    rw [hr] at HR q
    have C1 := Lib.hid q
    clear hx0 h0 h1 h2 h3 h4 h5 hr hc h q
    go_enter Try.func7, Try.ntmps7
    go_upto_region 1 with fail
    rw [HW.out]
    go_upto_region 15 with fail
    refine Hg.region_g 9 (fun w' => Bl w w' [(c.arr, 31), (g.arr, 28), (d.arr, 37), (#[.int .i64 0, .int .i64 0, .int .i64 0, .int .i64 0, .int .i64 0, .int .i64 0, .int .i64 0, .int .i64 0, .int .i64 0, .bool false, .int .i64 0, .int .i64 0, .int .i64 0], 31)]) (by kernel_rfl) (HB.out.go (Kept.refl _).drew) (fun hHeld => ?_)
    have hD := hHeld
    clear hD
    refine Hg.take_b 0 (some 34) rfl rfl (by kernel_rfl) (by kernel_rfl) (by kernel_rfl) (by kernel_rfl) (fun _ _ _ h => h) (Hg.yields_row 31 (.tmp 3) rfl w.heap.size 0 rfl rfl (fun u hu => run_loadVar_row _ w.heap.size _ _ c.arr (0, 0) _ (hu.blk 0 rfl) Try.underlying31 rfl info_cl)) hHeld ?_
    simp only [Act.put, List.setIfInBounds_toArray, List.set_cons_zero, List.set_cons_succ]
    refine Hg.take_b 1 (some 35) rfl rfl (by kernel_rfl) (by kernel_rfl) (by kernel_rfl) (by kernel_rfl) (fun _ _ _ h => h) (Hg.yields_row 28 (.tmp 4) rfl (w.heap.size + 1) 0 rfl rfl (fun u hu => run_loadVar_row _ (w.heap.size + 1) _ _ g.arr (0, 0) _ (hu.blk 1 rfl) Try.underlying28 rfl info_cf)) hHeld ?_
    simp only [Act.put, List.setIfInBounds_toArray, List.set_cons_zero, List.set_cons_succ]
    refine Hg.take_b 2 (some 36) (v := ?_) rfl rfl (by kernel_rfl) (by kernel_rfl) (by kernel_rfl) (by kernel_rfl) (fun _ _ _ h => h) (Or.inl ⟨by rfl, ?_⟩) hHeld ?_
    rotate_left
    · (intro w hSw; go_simp; try with_reducible rfl)
    simp only [Act.put, List.setIfInBounds_toArray, List.set_cons_zero, List.set_cons_succ]
    refine Hg.take_b 3 (some 37) rfl rfl (by kernel_rfl) (by kernel_rfl) (by kernel_rfl) (by kernel_rfl) (fun _ _ _ h => h) (Hg.yields_row 35 (.tmp 36) rfl (w.heap.size + 1 + 1) 2 rfl rfl (fun u hu => load_facts (facts_at hu 2 rfl))) hHeld ?_
    simp only [Act.put, List.setIfInBounds_toArray, List.set_cons_zero, List.set_cons_succ]
    refine Hg.step_b 4 rfl (by kernel_rfl) (fun K hK => ?_)
    go_simp
    refine (mine_any d.f _).mono ?_
    rintro e u1 ⟨rfl, k1⟩
    go_wp2_with fail
    have hHeld := hHeld.go k1
    refine hK.out _ _ hHeld ?_
    clear hK K
    refine Hg.step_b 5 rfl (by kernel_rfl) (fun K hK => ?_)
    go_simp
    refine (C1.out _).mono ?_
    rintro e u2 ⟨rfl, k2⟩
    go_wp2_with fail
    have hHeld := hHeld.go k2
    refine hK.out _ _ hHeld ?_
    clear hK K
    refine Hg.take_b 6 (some 33) (v := ?_) rfl rfl (by kernel_rfl) (by kernel_rfl) (by kernel_rfl) (by kernel_rfl) (fun _ _ _ h => h) (Or.inl ⟨by rfl, ?_⟩) hHeld ?_
    rotate_left
    · (intro w hSw; go_simp; try with_reducible rfl)
    simp only [Act.put, List.setIfInBounds_toArray, List.set_cons_zero, List.set_cons_succ]
    refine Hg.take_b 7 (some 40) (v := ?_) rfl rfl (by kernel_rfl) (by kernel_rfl) (by kernel_rfl) (by kernel_rfl) (fun _ _ _ h => h) (Or.inl ⟨by rfl, ?_⟩) hHeld ?_
    rotate_left
    · (intro w hSw; go_simp; try with_reducible rfl)
    simp only [Act.put, List.setIfInBounds_toArray, List.set_cons_zero, List.set_cons_succ]
    refine Hg.take_p 8 (some 41) (v := ?_) rfl rfl (by kernel_rfl) (by kernel_rfl) (by kernel_rfl) (by kernel_rfl) (fun _ _ _ h => h) (Or.inl ⟨by rfl, ?_⟩) (fun _ => hHeld) ?_
    rotate_left
    · (intro w hSw; clear hSw; go_simp; try with_reducible rfl)
    simp only [Act.put, List.setIfInBounds_toArray, List.set_cons_zero, List.set_cons_succ]
    refine Hg.store_s 9 31 (.tmp 3) (.tmp 40) rfl (by kernel_rfl) (by kernel_rfl) rfl rfl rfl w.heap.size r.arr rfl rfl 31 _ (hHeld.blk 0 rfl) info_cl rfl (by kernel_rfl) ?_
    refine Hg.take_p 10 (some 8) (v := ?_) rfl rfl (by kernel_rfl) (by kernel_rfl) (by kernel_rfl) (by kernel_rfl) (fun _ _ _ h => h) (Or.inl ⟨by rfl, ?_⟩) (fun h => by have h2 : true = false := h; cases h2) ?_
    rotate_left
    · (intro w hSw; clear hSw; go_simp; try with_reducible rfl)
    simp only [Act.put, List.setIfInBounds_toArray, List.set_cons_zero, List.set_cons_succ]
    refine Hg.done_g (by kernel_rfl) ?_
    have hX := hHeld.row 0 rfl r.arr
    obtain ⟨V, hV⟩ : ∃ V, u2.setRow w.heap.size r.arr = V := ⟨_, rfl⟩
    rw [show u2.setRow (w.heap.size + 0) r.arr = V from hV] at hX
    rw [hV]
    have HX := Lib.hid hX
    clear hV hX hHeld k1 k2 x0 x1
    go_wp2_with (first | (refine load_w 31 (.tmp 3) rfl w.heap.size rfl rfl r.arr 13 (HX.out.blk 0 rfl) Try.underlying31 rfl info_cl ?_) | (refine wpList_store_row rfl 31 (.tmp 6) (.tmp 48) rfl (w.heap.size + 1 + 1 + 1) _ rfl rfl 31 _ (HX.out.blk 3 rfl) info_cl rfl (by kernel_rfl) ?_))
    refine bodyPost_ret (Rw.results_row_tmp rfl _ _ (w.heap.size + 3) 31 _ (0, 0) _ rfl ((HX.out.row 3 rfl _).blk 3 rfl) Try.underlying31 rfl info_cl) rfl ⟨by rw [HR.out]; rfl, (HX.out.row 3 rfl _).kept⟩
  have h6 := h
  clear h
  by_cases h : d.k = 7
  · have x0 := hx0
    rw [h] at x0
    have HR := Lib.hid (stp_5 (by omega) : stp c g d = _)
    have q := bad_any c g d.f hc.1.2
    obtain ⟨r, y, hr⟩ : ∃ r y, bad c g d.f = (r, y) := ⟨_, _, rfl⟩
    rw [hr] at HR q
    have C1 := Lib.hid q
    clear hx0 h0 h1 h2 h3 h4 h5 h6 hr hc h q
    go_enter Try.func7, Try.ntmps7
    go_upto_region 1 with fail
    rw [HW.out]
    go_upto_region 15 with fail
    refine Hg.region_g 9 (fun w' => Bl w w' [(c.arr, 31), (g.arr, 28), (d.arr, 37), (#[.int .i64 0, .int .i64 0, .int .i64 0, .int .i64 0, .int .i64 0, .int .i64 0, .int .i64 0, .int .i64 0, .int .i64 0, .bool false, .int .i64 0, .int .i64 0, .int .i64 0], 31)]) (by kernel_rfl) (HB.out.go (Kept.refl _).drew) (fun hHeld => ?_)
    have hD := hHeld
    clear hD
    refine Hg.take_b 0 (some 34) rfl rfl (by kernel_rfl) (by kernel_rfl) (by kernel_rfl) (by kernel_rfl) (fun _ _ _ h => h) (Hg.yields_row 31 (.tmp 3) rfl w.heap.size 0 rfl rfl (fun u hu => run_loadVar_row _ w.heap.size _ _ c.arr (0, 0) _ (hu.blk 0 rfl) Try.underlying31 rfl info_cl)) hHeld ?_
    simp only [Act.put, List.setIfInBounds_toArray, List.set_cons_zero, List.set_cons_succ]
    refine Hg.take_b 1 (some 35) rfl rfl (by kernel_rfl) (by kernel_rfl) (by kernel_rfl) (by kernel_rfl) (fun _ _ _ h => h) (Hg.yields_row 28 (.tmp 4) rfl (w.heap.size + 1) 0 rfl rfl (fun u hu => run_loadVar_row _ (w.heap.size + 1) _ _ g.arr (0, 0) _ (hu.blk 1 rfl) Try.underlying28 rfl info_cf)) hHeld ?_
    simp only [Act.put, List.setIfInBounds_toArray, List.set_cons_zero, List.set_cons_succ]
    refine Hg.take_b 2 (some 36) (v := ?_) rfl rfl (by kernel_rfl) (by kernel_rfl) (by kernel_rfl) (by kernel_rfl) (fun _ _ _ h => h) (Or.inl ⟨by rfl, ?_⟩) hHeld ?_
    rotate_left
    · (intro w hSw; go_simp; try with_reducible rfl)
    simp only [Act.put, List.setIfInBounds_toArray, List.set_cons_zero, List.set_cons_succ]
    refine Hg.take_b 3 (some 37) rfl rfl (by kernel_rfl) (by kernel_rfl) (by kernel_rfl) (by kernel_rfl) (fun _ _ _ h => h) (Hg.yields_row 35 (.tmp 36) rfl (w.heap.size + 1 + 1) 2 rfl rfl (fun u hu => load_facts (facts_at hu 2 rfl))) hHeld ?_
    simp only [Act.put, List.setIfInBounds_toArray, List.set_cons_zero, List.set_cons_succ]
    refine Hg.step_b 4 rfl (by kernel_rfl) (fun K hK => ?_)
    go_simp
    refine (mine_any d.f _).mono ?_
    rintro e u1 ⟨rfl, k1⟩
    go_wp2_with fail
    have hHeld := hHeld.go k1
    refine hK.out _ _ hHeld ?_
    clear hK K
    refine Hg.step_b 5 rfl (by kernel_rfl) (fun K hK => ?_)
    go_simp
    refine (C1.out _).mono ?_
    rintro e u2 ⟨rfl, k2⟩
    go_wp2_with fail
    have hHeld := hHeld.go k2
    refine hK.out _ _ hHeld ?_
    clear hK K
    refine Hg.take_b 6 (some 33) (v := ?_) rfl rfl (by kernel_rfl) (by kernel_rfl) (by kernel_rfl) (by kernel_rfl) (fun _ _ _ h => h) (Or.inl ⟨by rfl, ?_⟩) hHeld ?_
    rotate_left
    · (intro w hSw; go_simp; try with_reducible rfl)
    simp only [Act.put, List.setIfInBounds_toArray, List.set_cons_zero, List.set_cons_succ]
    refine Hg.take_b 7 (some 40) (v := ?_) rfl rfl (by kernel_rfl) (by kernel_rfl) (by kernel_rfl) (by kernel_rfl) (fun _ _ _ h => h) (Or.inl ⟨by rfl, ?_⟩) hHeld ?_
    rotate_left
    · (intro w hSw; go_simp; try with_reducible rfl)
    simp only [Act.put, List.setIfInBounds_toArray, List.set_cons_zero, List.set_cons_succ]
    refine Hg.take_p 8 (some 41) (v := ?_) rfl rfl (by kernel_rfl) (by kernel_rfl) (by kernel_rfl) (by kernel_rfl) (fun _ _ _ h => h) (Or.inl ⟨by rfl, ?_⟩) (fun _ => hHeld) ?_
    rotate_left
    · (intro w hSw; clear hSw; go_simp; try with_reducible rfl)
    simp only [Act.put, List.setIfInBounds_toArray, List.set_cons_zero, List.set_cons_succ]
    refine Hg.store_s 9 31 (.tmp 3) (.tmp 40) rfl (by kernel_rfl) (by kernel_rfl) rfl rfl rfl w.heap.size r.arr rfl rfl 31 _ (hHeld.blk 0 rfl) info_cl rfl (by kernel_rfl) ?_
    refine Hg.take_p 10 (some 8) (v := ?_) rfl rfl (by kernel_rfl) (by kernel_rfl) (by kernel_rfl) (by kernel_rfl) (fun _ _ _ h => h) (Or.inl ⟨by rfl, ?_⟩) (fun h => by have h2 : true = false := h; cases h2) ?_
    rotate_left
    · (intro w hSw; clear hSw; go_simp; try with_reducible rfl)
    simp only [Act.put, List.setIfInBounds_toArray, List.set_cons_zero, List.set_cons_succ]
    refine Hg.done_g (by kernel_rfl) ?_
    have hX := hHeld.row 0 rfl r.arr
    obtain ⟨V, hV⟩ : ∃ V, u2.setRow w.heap.size r.arr = V := ⟨_, rfl⟩
    rw [show u2.setRow (w.heap.size + 0) r.arr = V from hV] at hX
    rw [hV]
    have HX := Lib.hid hX
    clear hV hX hHeld k1 k2 x0 x1
    go_wp2_with (first | (refine load_w 31 (.tmp 3) rfl w.heap.size rfl rfl r.arr 13 (HX.out.blk 0 rfl) Try.underlying31 rfl info_cl ?_) | (refine wpList_store_row rfl 31 (.tmp 6) (.tmp 48) rfl (w.heap.size + 1 + 1 + 1) _ rfl rfl 31 _ (HX.out.blk 3 rfl) info_cl rfl (by kernel_rfl) ?_))
    refine bodyPost_ret (Rw.results_row_tmp rfl _ _ (w.heap.size + 3) 31 _ (0, 0) _ rfl ((HX.out.row 3 rfl _).blk 3 rfl) Try.underlying31 rfl info_cl) rfl ⟨by rw [HR.out]; rfl, (HX.out.row 3 rfl _).kept⟩
  have h7 := h
  clear h
  by_cases h : d.k = 8
  · have x0 := hx0
    rw [h] at x0
    clear hx0 h0 h1 h2 h3 h4 h5 h6 h7
    have HR := Lib.hid (stp_8 h : stp c g d = _)
    obtain ⟨r, hr⟩ : ∃ r, ends c d.n = r := ⟨_, rfl⟩
    rw [hr] at HR
    have C1 := Lib.hid (show ∀ u, Calls Try.prog 23 #[.agg c.arr, .int .i64 d.n] u fun e w' => e = .returned (.agg r.arr) ∧ Kept u w' from fun u => by rw [← hr]; exact ends_any c d.n u)
    clear hr hc h
    go_enter Try.func7, Try.ntmps7
    go_upto_region 1 with fail
    rw [HW.out]
    go_upto_region 18 with (first
      | (go_at_call 23; refine (C1.out _).mono ?_; rintro e u ⟨rfl, hk⟩)
      | (refine load_w 31 (.tmp 3) rfl w.heap.size rfl rfl c.arr 13 (HB.out.blk 0 rfl) Try.underlying31 rfl info_cl ?_)
      | (refine wpList_store_row rfl 31 (.tmp 3) (.tmp 47) rfl w.heap.size _ rfl rfl 31 _ ((HB.out.go hk).blk 0 rfl) info_cl rfl (by kernel_rfl) ?_))
    have hX := (HB.out.go hk).row 0 rfl r.arr
    obtain ⟨V, hV⟩ : ∃ V, u.setRow w.heap.size r.arr = V := ⟨_, rfl⟩
    rw [show u.setRow (w.heap.size + 0) r.arr = V from hV] at hX
    rw [hV]
    have HX := Lib.hid hX
    clear hk hV hX x0 x1
    go_wp2_with (first | (refine load_w 31 (.tmp 3) rfl w.heap.size rfl rfl r.arr 13 (HX.out.blk 0 rfl) Try.underlying31 rfl info_cl ?_) | (refine wpList_store_row rfl 31 (.tmp 6) (.tmp 48) rfl (w.heap.size + 1 + 1 + 1) _ rfl rfl 31 _ (HX.out.blk 3 rfl) info_cl rfl (by kernel_rfl) ?_))
    refine bodyPost_ret (Rw.results_row_tmp rfl _ _ (w.heap.size + 3) 31 _ (0, 0) _ rfl ((HX.out.row 3 rfl _).blk 3 rfl) Try.underlying31 rfl info_cl) rfl ⟨by rw [HR.out]; rfl, (HX.out.row 3 rfl _).kept⟩
  have h8 := h
  clear h
  have HR := Lib.hid (stp_no ⟨h0, h1, h2, h3, h4, h5, h6, h7, h8⟩ : stp c g d = _)
  have HX := HB
  clear x1 hc HB
  go_enter Try.func7, Try.ntmps7
  go_upto_region 1 with fail
  rw [HW.out]
  go_wp2_with (first | (refine load_w 31 (.tmp 3) rfl w.heap.size rfl rfl c.arr 13 (HX.out.blk 0 rfl) Try.underlying31 rfl info_cl ?_) | (refine wpList_store_row rfl 31 (.tmp 6) (.tmp 48) rfl (w.heap.size + 1 + 1 + 1) _ rfl rfl 31 _ (HX.out.blk 3 rfl) info_cl rfl (by kernel_rfl) ?_))
  refine bodyPost_ret (Rw.results_row_tmp rfl _ _ (w.heap.size + 3) 31 _ (0, 0) _ rfl ((HX.out.row 3 rfl _).blk 3 rfl) Try.underlying31 rfl info_cl) rfl ⟨by rw [HR.out]; rfl, (HX.out.row 3 rfl _).kept⟩

end Go.Proofs.Ytpicjcophjekpaa.Cl
