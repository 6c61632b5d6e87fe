/- What a deed does to a call, in the document. -/
import Derived.Test.YtpicjcophjekpaaClD
namespace Go.Proofs.Ytpicjcophjekpaa.Cl
open Go.RowKit Go.Sort St Ad Po Blk
set_option linter.unusedVariables false

set_option maxRecDepth 100000 in
set_option maxHeartbeats 4000000 in
theorem like_any (c : Cl) (hc : c.Fit) (g : Cf) (d : De) (w : World) : Calls Try.prog 8 #[.agg c.arr, .agg g.arr, .agg d.arr] w fun e w' => e = .returned (.tuple #[.agg (stp c g d).1.arr, .int .i64 (stp c g d).2]) ∧ Kept w w' := by
  obtain ⟨W, hW, hB⟩ : ∃ W, (((w.alloc (.cells c.arr 25)).alloc (.cells g.arr 28)).alloc (.cells d.arr 37)).alloc (.cells #[.int .i64 0, .int .i64 0, .int .i64 0, .int .i64 0, .int .i64 0, .int .i64 0, .int .i64 0, .int .i64 0, .int .i64 0, .bool false, .int .i64 0, .int .i64 0, .int .i64 0] 25) = W ∧ Bl w W [(c.arr, 25), (g.arr, 28), (d.arr, 37), (#[.int .i64 0, .int .i64 0, .int .i64 0, .int .i64 0, .int .i64 0, .int .i64 0, .int .i64 0, .int .i64 0, .int .i64 0, .bool false, .int .i64 0, .int .i64 0, .int .i64 0], 25)] := ⟨_, rfl, Bl.start [(_, _), (_, _), (_, _), (_, _)] w⟩
  have HW := Lib.hid hW
  have HB := Lib.hid hB
  clear hW
  have x1 : W.cell? ⟨w.heap.size + 1 + 1, 1, none⟩ = some (.int .i64 d.n) := hB.cell 2 1 rfl
  have hx0 : W.cell? ⟨w.heap.size + 1 + 1, 0, none⟩ = some (.int .i64 d.k) := hB.cell 2 0 rfl
  clear hB
  by_cases h : d.k = 0
  · have x0 := hx0
    rw [h] at x0
    clear hx0
    have HR := Lib.hid (stp_0 (by omega) : stp c g d = _)
    obtain ⟨r, hr⟩ : ∃ r, begin c d.n = r := ⟨_, rfl⟩
    rw [hr] at HR
    have C1 := Lib.hid (show ∀ u, Calls Try.prog 24 #[.agg c.arr, .int .i64 d.n] u fun e w' => e = .returned (.agg r.arr) ∧ Kept u w' from fun u => by rw [← hr]; exact rbegin_any c hc d.n u)
    clear hr hc h
    go_enter Try.func8, Try.ntmps8
    go_upto_region 1 with fail
    rw [HW.out]
    go_upto_region 18 with (first
      | (go_at_call 24; refine (C1.out _).mono ?_; rintro e u ⟨rfl, hk⟩)
      | (refine load_w 25 (.tmp 3) rfl w.heap.size rfl rfl c.arr 13 (HB.out.blk 0 rfl) Try.underlying25 rfl info_rcl ?_)
      | (refine wpList_store_row rfl 25 (.tmp 3) (.tmp 18) rfl w.heap.size _ rfl rfl 25 _ ((HB.out.go hk).blk 0 rfl) info_rcl rfl (by kernel_rfl) ?_))
    have hX := (HB.out.go hk).row 0 rfl r.arr
    obtain ⟨V, hV⟩ : ∃ V, u.setRow w.heap.size r.arr = V := ⟨_, rfl⟩
    rw [show u.setRow (w.heap.size + 0) r.arr = V from hV] at hX
    rw [hV]
    have HX := Lib.hid hX
    clear hk hV hX x0 x1
    go_wp2_with (first | (refine load_w 25 (.tmp 3) rfl w.heap.size rfl rfl r.arr 13 (HX.out.blk 0 rfl) Try.underlying25 rfl info_rcl ?_) | (refine wpList_store_row rfl 25 (.tmp 6) (.tmp 47) rfl (w.heap.size + 1 + 1 + 1) _ rfl rfl 25 _ (HX.out.blk 3 rfl) info_rcl rfl (by kernel_rfl) ?_))
    refine bodyPost_ret (Rw.results_row_tmp rfl _ _ (w.heap.size + 3) 25 _ (0, 0) _ rfl ((HX.out.row 3 rfl _).blk 3 rfl) Try.underlying25 rfl info_rcl) rfl ⟨by rw [HR.out]; rfl, (HX.out.row 3 rfl _).kept⟩
  have h0 := h
  clear h
  by_cases h : d.k = 1
  · have x0 := hx0
    rw [h] at x0
    clear hx0
    have HR := Lib.hid (stp_0 (by omega) : stp c g d = _)
    obtain ⟨r, hr⟩ : ∃ r, begin c d.n = r := ⟨_, rfl⟩
    rw [hr] at HR
    have C1 := Lib.hid (show ∀ u, Calls Try.prog 24 #[.agg c.arr, .int .i64 d.n] u fun e w' => e = .returned (.agg r.arr) ∧ Kept u w' from fun u => by rw [← hr]; exact rbegin_any c hc d.n u)
    clear hr hc h
    go_enter Try.func8, Try.ntmps8
    go_upto_region 1 with fail
    rw [HW.out]
    go_upto_region 18 with (first
      | (go_at_call 24; refine (C1.out _).mono ?_; rintro e u ⟨rfl, hk⟩)
      | (refine load_w 25 (.tmp 3) rfl w.heap.size rfl rfl c.arr 13 (HB.out.blk 0 rfl) Try.underlying25 rfl info_rcl ?_)
      | (refine wpList_store_row rfl 25 (.tmp 3) (.tmp 18) rfl w.heap.size _ rfl rfl 25 _ ((HB.out.go hk).blk 0 rfl) info_rcl rfl (by kernel_rfl) ?_))
    have hX := (HB.out.go hk).row 0 rfl r.arr
    obtain ⟨V, hV⟩ : ∃ V, u.setRow w.heap.size r.arr = V := ⟨_, rfl⟩
    rw [show u.setRow (w.heap.size + 0) r.arr = V from hV] at hX
    rw [hV]
    have HX := Lib.hid hX
    clear hk hV hX x0 x1
    go_wp2_with (first | (refine load_w 25 (.tmp 3) rfl w.heap.size rfl rfl r.arr 13 (HX.out.blk 0 rfl) Try.underlying25 rfl info_rcl ?_) | (refine wpList_store_row rfl 25 (.tmp 6) (.tmp 47) rfl (w.heap.size + 1 + 1 + 1) _ rfl rfl 25 _ (HX.out.blk 3 rfl) info_rcl rfl (by kernel_rfl) ?_))
    refine bodyPost_ret (Rw.results_row_tmp rfl _ _ (w.heap.size + 3) 25 _ (0, 0) _ rfl ((HX.out.row 3 rfl _).blk 3 rfl) Try.underlying25 rfl info_rcl) rfl ⟨by rw [HR.out]; rfl, (HX.out.row 3 rfl _).kept⟩
  have h1 := h
  clear h
  by_cases h : d.k = 2
  · have x0 := hx0
    rw [h] at x0
    clear hx0
    have HR := Lib.hid (stp_0 (by omega) : stp c g d = _)
    obtain ⟨r, hr⟩ : ∃ r, begin c d.n = r := ⟨_, rfl⟩
    rw [hr] at HR
    have C1 := Lib.hid (show ∀ u, Calls Try.prog 24 #[.agg c.arr, .int .i64 d.n] u fun e w' => e = .returned (.agg r.arr) ∧ Kept u w' from fun u => by rw [← hr]; exact rbegin_any c hc d.n u)
    clear hr hc h
    go_enter Try.func8, Try.ntmps8
    go_upto_region 1 with fail
    rw [HW.out]
    go_upto_region 18 with (first
      | (go_at_call 24; refine (C1.out _).mono ?_; rintro e u ⟨rfl, hk⟩)
      | (refine load_w 25 (.tmp 3) rfl w.heap.size rfl rfl c.arr 13 (HB.out.blk 0 rfl) Try.underlying25 rfl info_rcl ?_)
      | (refine wpList_store_row rfl 25 (.tmp 3) (.tmp 18) rfl w.heap.size _ rfl rfl 25 _ ((HB.out.go hk).blk 0 rfl) info_rcl rfl (by kernel_rfl) ?_))
    have hX := (HB.out.go hk).row 0 rfl r.arr
    obtain ⟨V, hV⟩ : ∃ V, u.setRow w.heap.size r.arr = V := ⟨_, rfl⟩
    rw [show u.setRow (w.heap.size + 0) r.arr = V from hV] at hX
    rw [hV]
    have HX := Lib.hid hX
    clear hk hV hX x0 x1
    go_wp2_with (first | (refine load_w 25 (.tmp 3) rfl w.heap.size rfl rfl r.arr 13 (HX.out.blk 0 rfl) Try.underlying25 rfl info_rcl ?_) | (refine wpList_store_row rfl 25 (.tmp 6) (.tmp 47) rfl (w.heap.size + 1 + 1 + 1) _ rfl rfl 25 _ (HX.out.blk 3 rfl) info_rcl rfl (by kernel_rfl) ?_))
    refine bodyPost_ret (Rw.results_row_tmp rfl _ _ (w.heap.size + 3) 25 _ (0, 0) _ rfl ((HX.out.row 3 rfl _).blk 3 rfl) Try.underlying25 rfl info_rcl) rfl ⟨by rw [HR.out]; rfl, (HX.out.row 3 rfl _).kept⟩
  have h2 := h
  clear h
  by_cases h : d.k = 3
  · have x0 := hx0
    rw [h] at x0
    clear hx0 h0 h1 h2
    have HR := Lib.hid (stp_3 h : stp c g d = _)
    obtain ⟨r, hr⟩ : ∃ r, good c d.n = r := ⟨_, rfl⟩
    rw [hr] at HR
    have C1 := Lib.hid (show ∀ u, Calls Try.prog 25 #[.agg c.arr, .int .i64 d.n] u fun e w' => e = .returned (.agg r.arr) ∧ Kept u w' from fun u => by rw [← hr]; exact rgood_any c d.n u)
    clear hr hc h
    go_enter Try.func8, Try.ntmps8
    go_upto_region 1 with fail
    rw [HW.out]
    go_upto_region 18 with (first
      | (go_at_call 25; refine (C1.out _).mono ?_; rintro e u ⟨rfl, hk⟩)
      | (refine load_w 25 (.tmp 3) rfl w.heap.size rfl rfl c.arr 13 (HB.out.blk 0 rfl) Try.underlying25 rfl info_rcl ?_)
      | (refine wpList_store_row rfl 25 (.tmp 3) (.tmp 24) rfl w.heap.size _ rfl rfl 25 _ ((HB.out.go hk).blk 0 rfl) info_rcl rfl (by kernel_rfl) ?_))
    have hX := (HB.out.go hk).row 0 rfl r.arr
    obtain ⟨V, hV⟩ : ∃ V, u.setRow w.heap.size r.arr = V := ⟨_, rfl⟩
    rw [show u.setRow (w.heap.size + 0) r.arr = V from hV] at hX
    rw [hV]
    have HX := Lib.hid hX
    clear hk hV hX x0 x1
    go_wp2_with (first | (refine load_w 25 (.tmp 3) rfl w.heap.size rfl rfl r.arr 13 (HX.out.blk 0 rfl) Try.underlying25 rfl info_rcl ?_) | (refine wpList_store_row rfl 25 (.tmp 6) (.tmp 47) rfl (w.heap.size + 1 + 1 + 1) _ rfl rfl 25 _ (HX.out.blk 3 rfl) info_rcl rfl (by kernel_rfl) ?_))
    refine bodyPost_ret (Rw.results_row_tmp rfl _ _ (w.heap.size + 3) 25 _ (0, 0) _ rfl ((HX.out.row 3 rfl _).blk 3 rfl) Try.underlying25 rfl info_rcl) rfl ⟨by rw [HR.out]; rfl, (HX.out.row 3 rfl _).kept⟩
  have h3 := h
  clear h
  by_cases h : d.k = 4
  · have x0 := hx0
    rw [h] at x0
    clear hx0 h0 h1 h2 h3
    have HR := Lib.hid (stp_4 h : stp c g d = _)
    obtain ⟨r, hr⟩ : ∃ r, taken c = r := ⟨_, rfl⟩
    rw [hr] at HR
    have C1 := Lib.hid (show ∀ u, Calls Try.prog 26 #[.agg c.arr] u fun e w' => e = .returned (.agg r.arr) ∧ Kept u w' from fun u => by rw [← hr]; exact rtaken_any c u)
    clear hr hc h
    go_enter Try.func8, Try.ntmps8
    go_upto_region 1 with fail
    rw [HW.out]
    go_upto_region 18 with (first
      | (go_at_call 26; refine (C1.out _).mono ?_; rintro e u ⟨rfl, hk⟩)
      | (refine load_w 25 (.tmp 3) rfl w.heap.size rfl rfl c.arr 13 (HB.out.blk 0 rfl) Try.underlying25 rfl info_rcl ?_)
      | (refine wpList_store_row rfl 25 (.tmp 3) (.tmp 28) rfl w.heap.size _ rfl rfl 25 _ ((HB.out.go hk).blk 0 rfl) info_rcl rfl (by kernel_rfl) ?_))
    have hX := (HB.out.go hk).row 0 rfl r.arr
    obtain ⟨V, hV⟩ : ∃ V, u.setRow w.heap.size r.arr = V := ⟨_, rfl⟩
    rw [show u.setRow (w.heap.size + 0) r.arr = V from hV] at hX
    rw [hV]
    have HX := Lib.hid hX
    clear hk hV hX x0 x1
    go_wp2_with (first | (refine load_w 25 (.tmp 3) rfl w.heap.size rfl rfl r.arr 13 (HX.out.blk 0 rfl) Try.underlying25 rfl info_rcl ?_) | (refine wpList_store_row rfl 25 (.tmp 6) (.tmp 47) rfl (w.heap.size + 1 + 1 + 1) _ rfl rfl 25 _ (HX.out.blk 3 rfl) info_rcl rfl (by kernel_rfl) ?_))
    refine bodyPost_ret (Rw.results_row_tmp rfl _ _ (w.heap.size + 3) 25 _ (0, 0) _ rfl ((HX.out.row 3 rfl _).blk 3 rfl) Try.underlying25 rfl info_rcl) rfl ⟨by rw [HR.out]; rfl, (HX.out.row 3 rfl _).kept⟩
  have h4 := h
  clear h
  by_cases h : d.k = 5
  · have x0 := hx0
    rw [h] at x0
    have HR := Lib.hid (stp_5 (by omega) : stp c g d = _)
    have q := rbad_any c g d.f hc.1.2
    obtain ⟨r, y, hr⟩ : ∃ r y, bad c g d.f = (r, y) := ⟨_, _, rfl⟩
    rw [hr] at HR q
    have C1 := Lib.hid q
    clear hx0 h0 h1 h2 h3 h4 hr hc h q
    go_enter Try.func8, Try.ntmps8
    go_upto_region 1 with fail
    rw [HW.out]
    go_upto_region 18 with (first
      | (go_at_call 27; refine (C1.out _).mono ?_; rintro e u ⟨rfl, hk⟩)
      | (refine load_w 25 (.tmp 3) rfl w.heap.size rfl rfl c.arr 13 (HB.out.blk 0 rfl) Try.underlying25 rfl info_rcl ?_)
      | (refine load_w 28 (.tmp 4) rfl (w.heap.size + 1) rfl rfl g.arr 14 (HB.out.blk 1 rfl) Try.underlying28 rfl info_cf ?_)
      | (refine wpList_load_mid rfl 35 (.tmp 36) rfl (w.heap.size + 1 + 1) 2 rfl _ _ (facts_at HB.out 2 rfl) Try.underlying35 rfl info_rft ?_)
      | (refine wpList_store_row rfl 25 (.tmp 3) (.tmp 39) rfl w.heap.size _ rfl rfl 25 _ ((HB.out.go hk).blk 0 rfl) info_rcl rfl (by kernel_rfl) ?_))
    have hX := (HB.out.go hk).row 0 rfl r.arr
    obtain ⟨V, hV⟩ : ∃ V, u.setRow w.heap.size r.arr = V := ⟨_, rfl⟩
    rw [show u.setRow (w.heap.size + 0) r.arr = V from hV] at hX
    rw [hV]
    have HX := Lib.hid hX
    clear hk hV hX x0 x1
    go_wp2_with (first | (refine load_w 25 (.tmp 3) rfl w.heap.size rfl rfl r.arr 13 (HX.out.blk 0 rfl) Try.underlying25 rfl info_rcl ?_) | (refine wpList_store_row rfl 25 (.tmp 6) (.tmp 47) rfl (w.heap.size + 1 + 1 + 1) _ rfl rfl 25 _ (HX.out.blk 3 rfl) info_rcl rfl (by kernel_rfl) ?_))
    refine bodyPost_ret (Rw.results_row_tmp rfl _ _ (w.heap.size + 3) 25 _ (0, 0) _ rfl ((HX.out.row 3 rfl _).blk 3 rfl) Try.underlying25 rfl info_rcl) rfl ⟨by rw [HR.out]; rfl, (HX.out.row 3 rfl _).kept⟩
  have h5 := h
  clear h
  by_cases h : d.k = 6
  · have x0 := hx0
    rw [h] at x0
    have HR := Lib.hid (stp_5 (by omega) : stp c g d = _)
    have q := rbad_any c g d.f hc.1.2
    obtain ⟨r, y, hr⟩ : ∃ r y, bad c g d.f = (r, y) := ⟨_, _, rfl⟩
    rw [hr] at HR q
    have C1 := Lib.hid q
    clear hx0 h0 h1 h2 h3 h4 h5 hr hc h q
    go_enter Try.func8, Try.ntmps8
    go_upto_region 1 with fail
    rw [HW.out]
    go_upto_region 18 with (first
      | (go_at_call 27; refine (C1.out _).mono ?_; rintro e u ⟨rfl, hk⟩)
      | (refine load_w 25 (.tmp 3) rfl w.heap.size rfl rfl c.arr 13 (HB.out.blk 0 rfl) Try.underlying25 rfl info_rcl ?_)
      | (refine load_w 28 (.tmp 4) rfl (w.heap.size + 1) rfl rfl g.arr 14 (HB.out.blk 1 rfl) Try.underlying28 rfl info_cf ?_)
      | (refine wpList_load_mid rfl 35 (.tmp 36) rfl (w.heap.size + 1 + 1) 2 rfl _ _ (facts_at HB.out 2 rfl) Try.underlying35 rfl info_rft ?_)
      | (refine wpList_store_row rfl 25 (.tmp 3) (.tmp 39) rfl w.heap.size _ rfl rfl 25 _ ((HB.out.go hk).blk 0 rfl) info_rcl rfl (by kernel_rfl) ?_))
    have hX := (HB.out.go hk).row 0 rfl r.arr
    obtain ⟨V, hV⟩ : ∃ V, u.setRow w.heap.size r.arr = V := ⟨_, rfl⟩
    rw [show u.setRow (w.heap.size + 0) r.arr = V from hV] at hX
    rw [hV]
    have HX := Lib.hid hX
    clear hk hV hX x0 x1
    go_wp2_with (first | (refine load_w 25 (.tmp 3) rfl w.heap.size rfl rfl r.arr 13 (HX.out.blk 0 rfl) Try.underlying25 rfl info_rcl ?_) | (refine wpList_store_row rfl 25 (.tmp 6) (.tmp 47) rfl (w.heap.size + 1 + 1 + 1) _ rfl rfl 25 _ (HX.out.blk 3 rfl) info_rcl rfl (by kernel_rfl) ?_))
    refine bodyPost_ret (Rw.results_row_tmp rfl _ _ (w.heap.size + 3) 25 _ (0, 0) _ rfl ((HX.out.row 3 rfl _).blk 3 rfl) Try.underlying25 rfl info_rcl) rfl ⟨by rw [HR.out]; rfl, (HX.out.row 3 rfl _).kept⟩
  have h6 := h
  clear h
  by_cases h : d.k = 7
  · have x0 := hx0
    rw [h] at x0
    have HR := Lib.hid (stp_5 (by omega) : stp c g d = _)
    have q := rbad_any c g d.f hc.1.2
    obtain ⟨r, y, hr⟩ : ∃ r y, bad c g d.f = (r, y) := ⟨_, _, rfl⟩
    rw [hr] at HR q
    have C1 := Lib.hid q
    clear hx0 h0 h1 h2 h3 h4 h5 h6 hr hc h q
    go_enter Try.func8, Try.ntmps8
    go_upto_region 1 with fail
    rw [HW.out]
    go_upto_region 18 with (first
      | (go_at_call 27; refine (C1.out _).mono ?_; rintro e u ⟨rfl, hk⟩)
      | (refine load_w 25 (.tmp 3) rfl w.heap.size rfl rfl c.arr 13 (HB.out.blk 0 rfl) Try.underlying25 rfl info_rcl ?_)
      | (refine load_w 28 (.tmp 4) rfl (w.heap.size + 1) rfl rfl g.arr 14 (HB.out.blk 1 rfl) Try.underlying28 rfl info_cf ?_)
      | (refine wpList_load_mid rfl 35 (.tmp 36) rfl (w.heap.size + 1 + 1) 2 rfl _ _ (facts_at HB.out 2 rfl) Try.underlying35 rfl info_rft ?_)
      | (refine wpList_store_row rfl 25 (.tmp 3) (.tmp 39) rfl w.heap.size _ rfl rfl 25 _ ((HB.out.go hk).blk 0 rfl) info_rcl rfl (by kernel_rfl) ?_))
    have hX := (HB.out.go hk).row 0 rfl r.arr
    obtain ⟨V, hV⟩ : ∃ V, u.setRow w.heap.size r.arr = V := ⟨_, rfl⟩
    rw [show u.setRow (w.heap.size + 0) r.arr = V from hV] at hX
    rw [hV]
    have HX := Lib.hid hX
    clear hk hV hX x0 x1
    go_wp2_with (first | (refine load_w 25 (.tmp 3) rfl w.heap.size rfl rfl r.arr 13 (HX.out.blk 0 rfl) Try.underlying25 rfl info_rcl ?_) | (refine wpList_store_row rfl 25 (.tmp 6) (.tmp 47) rfl (w.heap.size + 1 + 1 + 1) _ rfl rfl 25 _ (HX.out.blk 3 rfl) info_rcl rfl (by kernel_rfl) ?_))
    refine bodyPost_ret (Rw.results_row_tmp rfl _ _ (w.heap.size + 3) 25 _ (0, 0) _ rfl ((HX.out.row 3 rfl _).blk 3 rfl) Try.underlying25 rfl info_rcl) rfl ⟨by rw [HR.out]; rfl, (HX.out.row 3 rfl _).kept⟩
  have h7 := h
  clear h
  by_cases h : d.k = 8
  · have x0 := hx0
    rw [h] at x0
    clear hx0 h0 h1 h2 h3 h4 h5 h6 h7
    have HR := Lib.hid (stp_8 h : stp c g d = _)
    obtain ⟨r, hr⟩ : ∃ r, ends c d.n = r := ⟨_, rfl⟩
    rw [hr] at HR
    have C1 := Lib.hid (show ∀ u, Calls Try.prog 28 #[.agg c.arr, .int .i64 d.n] u fun e w' => e = .returned (.agg r.arr) ∧ Kept u w' from fun u => by rw [← hr]; exact rends_any c d.n u)
    clear hr hc h
    go_enter Try.func8, Try.ntmps8
    go_upto_region 1 with fail
    rw [HW.out]
    go_upto_region 18 with (first
      | (go_at_call 28; refine (C1.out _).mono ?_; rintro e u ⟨rfl, hk⟩)
      | (refine load_w 25 (.tmp 3) rfl w.heap.size rfl rfl c.arr 13 (HB.out.blk 0 rfl) Try.underlying25 rfl info_rcl ?_)
      | (refine wpList_store_row rfl 25 (.tmp 3) (.tmp 46) rfl w.heap.size _ rfl rfl 25 _ ((HB.out.go hk).blk 0 rfl) info_rcl rfl (by kernel_rfl) ?_))
    have hX := (HB.out.go hk).row 0 rfl r.arr
    obtain ⟨V, hV⟩ : ∃ V, u.setRow w.heap.size r.arr = V := ⟨_, rfl⟩
    rw [show u.setRow (w.heap.size + 0) r.arr = V from hV] at hX
    rw [hV]
    have HX := Lib.hid hX
    clear hk hV hX x0 x1
    go_wp2_with (first | (refine load_w 25 (.tmp 3) rfl w.heap.size rfl rfl r.arr 13 (HX.out.blk 0 rfl) Try.underlying25 rfl info_rcl ?_) | (refine wpList_store_row rfl 25 (.tmp 6) (.tmp 47) rfl (w.heap.size + 1 + 1 + 1) _ rfl rfl 25 _ (HX.out.blk 3 rfl) info_rcl rfl (by kernel_rfl) ?_))
    refine bodyPost_ret (Rw.results_row_tmp rfl _ _ (w.heap.size + 3) 25 _ (0, 0) _ rfl ((HX.out.row 3 rfl _).blk 3 rfl) Try.underlying25 rfl info_rcl) rfl ⟨by rw [HR.out]; rfl, (HX.out.row 3 rfl _).kept⟩
  have h8 := h
  clear h
  have HR := Lib.hid (stp_no ⟨h0, h1, h2, h3, h4, h5, h6, h7, h8⟩ : stp c g d = _)
  have HX := HB
  clear x1 hc HB
  go_enter Try.func8, Try.ntmps8
  go_upto_region 1 with fail
  rw [HW.out]
  go_wp2_with (first | (refine load_w 25 (.tmp 3) rfl w.heap.size rfl rfl c.arr 13 (HX.out.blk 0 rfl) Try.underlying25 rfl info_rcl ?_) | (refine wpList_store_row rfl 25 (.tmp 6) (.tmp 47) rfl (w.heap.size + 1 + 1 + 1) _ rfl rfl 25 _ (HX.out.blk 3 rfl) info_rcl rfl (by kernel_rfl) ?_))
  refine bodyPost_ret (Rw.results_row_tmp rfl _ _ (w.heap.size + 3) 25 _ (0, 0) _ rfl ((HX.out.row 3 rfl _).blk 3 rfl) Try.underlying25 rfl info_rcl) rfl ⟨by rw [HR.out]; rfl, (HX.out.row 3 rfl _).kept⟩

end Go.Proofs.Ytpicjcophjekpaa.Cl
