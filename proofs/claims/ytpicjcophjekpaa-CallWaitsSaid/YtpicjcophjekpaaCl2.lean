/- Package call, and the document's own answers for it: an attempt that went well, or badly; the key; what has rested, and what was lost. -/
import Derived.Test.YtpicjcophjekpaaCl
import Derived.Test.YtpicjcophjekpaaBlk
import Derived.Test.YtpicjcophjekpaaRw
import Derived.Test.YtpicjcophjekpaaTk2
namespace Go.Proofs.Ytpicjcophjekpaa.Cl
open Go.RowKit Go.Sort St Ad Po Blk
open Go.Proofs.Ytpicjcophjekpaa.Id (quiet_at boxed1)
set_option linter.unusedVariables false

theorem row2' (w : World) (t t' : TypeId) (xs ys : Array Value) : ((w.alloc (.cells xs t)).alloc (.cells ys t')).heap[w.heap.size + 1]? = some (.cells ys t' (0, 0)) := by
  have := blk_new (w.alloc (.cells xs t)) (.cells ys t')
  rwa [show (w.alloc (.cells xs t)).heap.size = w.heap.size + 1 by simp] at this
def lost (c : Cl) (n wt g : Int) : Bool := c.st == 1 && Tk.past n (Tk.add c.se wt) g
def rested (c : Cl) (n g : Int) : Bool := c.st == 2 && Tk.past n c.re g
theorem bad_no {c : Cl} (g : Cf) (f : Ft) (h : ¬ c.st = 1) : bad c g f = (c, 1) := by unfold bad; rw [if_neg h]
theorem bad_again {c : Cl} {g : Cf} {f : Ft} {a b : Int} (h : c.st = 1) (h2 : dec g (asks c f) = (a, b)) (h3 : a = 0) : bad c g f = ({ c with st := 2, re := b }, 0) := by unfold bad; rw [if_pos h, h2, if_pos h3]
theorem bad_ends {c : Cl} {g : Cf} {f : Ft} {a b : Int} (h : c.st = 1) (h2 : dec g (asks c f) = (a, b)) (h3 : ¬ a = 0) : bad c g f = (ends c f.code, a) := by unfold bad; rw [if_pos h, h2, if_neg h3]
theorem lost_no {c : Cl} (n wt g : Int) (h : ¬ c.st = 1) : lost c n wt g = false := by unfold lost; rw [beq_eq_false_iff_ne.2 h, Bool.false_and]
theorem lost_on {c : Cl} (n wt g : Int) (h : c.st = 1) : lost c n wt g = Tk.past n (Tk.add c.se wt) g := by unfold lost; rw [beq_iff_eq.2 h, Bool.true_and]
theorem rested_no {c : Cl} (n g : Int) (h : ¬ c.st = 2) : rested c n g = false := by unfold rested; rw [beq_eq_false_iff_ne.2 h, Bool.false_and]
theorem rested_on {c : Cl} (n g : Int) (h : c.st = 2) : rested c n g = Tk.past n c.re g := by unfold rested; rw [beq_iff_eq.2 h, Bool.true_and]
theorem ret_bad {a b : Cl × Int} (h : a = b) : Ending.returned (.tuple #[.agg a.1.arr, .int .i64 a.2]) = .returned (.tuple #[.agg b.1.arr, .int .i64 b.2]) := by rw [h]

set_option maxRecDepth 100000 in
set_option maxHeartbeats 1000000 in
theorem lost_any (c : Cl) (n wt g : Int) (w : World) : Calls Try.prog 12 #[.agg c.arr, .int .i64 n, .int .i64 wt, .int .i64 g] w fun e w' => e = .returned (.bool (lost c n wt g)) ∧ Kept w w' := by
  by_cases h : c.st = 1
  · rw [lost_on n wt g h]
    obtain ⟨x0, x1, x2, x3, x4, x5, x6, x7, x8, x9, x10, x11, x12⟩ := c
    simp only [Cl.arr] at h ⊢
    subst h
    go_enter Try.func12, Try.ntmps12
    go_wp2_with (first | (go_at_call 30; refine (Tk.add_any _ _ _).mono ?_; rintro e w' ⟨rfl, rfl⟩) | (go_at_call 29; refine (Tk.past_any _ _ _ _).mono ?_; rintro e w' ⟨rfl, rfl⟩))
    go_ret
    exact ⟨rfl, Kept.one _ _⟩
  · rw [lost_no n wt g h]
    obtain ⟨x0, x1, x2, x3, x4, x5, x6, x7, x8, x9, x10, x11, x12⟩ := c
    simp only [Cl.arr] at h ⊢
    go_enter Try.func12, Try.ntmps12
    go_wp2
    go_ret
    exact ⟨rfl, Kept.one _ _⟩

set_option maxRecDepth 100000 in
set_option maxHeartbeats 1000000 in
theorem rested_any (c : Cl) (n g : Int) (w : World) : Calls Try.prog 14 #[.agg c.arr, .int .i64 n, .int .i64 g] w fun e w' => e = .returned (.bool (rested c n g)) ∧ Kept w w' := by
  by_cases h : c.st = 2
  · rw [rested_on n g h]
    obtain ⟨x0, x1, x2, x3, x4, x5, x6, x7, x8, x9, x10, x11, x12⟩ := c
    simp only [Cl.arr] at h ⊢
    subst h
    go_enter Try.func14, Try.ntmps14
    go_wp2_with (go_at_call 29; refine (Tk.past_any _ _ _ _).mono ?_; rintro e w' ⟨rfl, rfl⟩)
    go_ret
    exact ⟨rfl, Kept.one _ _⟩
  · rw [rested_no n g h]
    obtain ⟨x0, x1, x2, x3, x4, x5, x6, x7, x8, x9, x10, x11, x12⟩ := c
    simp only [Cl.arr] at h ⊢
    go_enter Try.func14, Try.ntmps14
    go_wp2
    go_ret
    exact ⟨rfl, Kept.one _ _⟩

set_option maxRecDepth 100000 in
set_option maxHeartbeats 1000000 in
theorem key_any (c : Cl) (w : World) : Calls Try.prog 10 #[.agg c.arr] w fun e w' => e = .returned (.agg #[.int .i64 c.n, .int .i64 c.i, .int .i64 c.s, .int .i64 c.att]) ∧ Kept w w' := by
  obtain ⟨x0, x1, x2, x3, x4, x5, x6, x7, x8, x9, x10, x11, x12⟩ := c
  simp only [Cl.arr]
  go_enter Try.func10, Try.ntmps10
  go_wp2
  refine bodyPost_ret (results_cell_row rfl _ _ (w.heap.size + 1) 42 #[.int .i64 x0, .int .i64 x1, .int .i64 x2, .int .i64 x5] (0, 0) _ rfl ((Bl.start [(_, _), (_, _)] w).blk 1 rfl) Try.underlying42 rfl (by kernel_rfl)) rfl ⟨rfl, (Bl.start [(_, _), (_, _)] w).kept⟩

set_option maxRecDepth 100000 in
set_option maxHeartbeats 1000000 in
theorem rlost_any (c : Cl) (n wt g : Int) (w : World) : Calls Try.prog 13 #[.agg c.arr, .int .i64 n, .int .i64 wt, .int .i64 g] w fun e w' => e = .returned (.bool (lost c n wt g)) ∧ Kept w w' := by
  by_cases h : c.st = 1
  · rw [lost_on n wt g h]
    obtain ⟨x0, x1, x2, x3, x4, x5, x6, x7, x8, x9, x10, x11, x12⟩ := c
    simp only [Cl.arr] at h ⊢
    subst h
    go_enter Try.func13, Try.ntmps13
    go_wp2_with (first | (go_at_call 18; refine (Tk.radd_any _ _ _).mono ?_; rintro e w' ⟨rfl, rfl⟩) | (go_at_call 31; refine (Tk.rpast_any _ _ _ _).mono ?_; rintro e w' ⟨rfl, rfl⟩))
    go_ret
    exact ⟨rfl, Kept.one _ _⟩
  · rw [lost_no n wt g h]
    obtain ⟨x0, x1, x2, x3, x4, x5, x6, x7, x8, x9, x10, x11, x12⟩ := c
    simp only [Cl.arr] at h ⊢
    go_enter Try.func13, Try.ntmps13
    go_wp2
    go_ret
    exact ⟨rfl, Kept.one _ _⟩

set_option maxRecDepth 100000 in
set_option maxHeartbeats 1000000 in
theorem rrested_any (c : Cl) (n g : Int) (w : World) : Calls Try.prog 15 #[.agg c.arr, .int .i64 n, .int .i64 g] w fun e w' => e = .returned (.bool (rested c n g)) ∧ Kept w w' := by
  by_cases h : c.st = 2
  · rw [rested_on n g h]
    obtain ⟨x0, x1, x2, x3, x4, x5, x6, x7, x8, x9, x10, x11, x12⟩ := c
    simp only [Cl.arr] at h ⊢
    subst h
    go_enter Try.func15, Try.ntmps15
    go_wp2_with (go_at_call 31; refine (Tk.rpast_any _ _ _ _).mono ?_; rintro e w' ⟨rfl, rfl⟩)
    go_ret
    exact ⟨rfl, Kept.one _ _⟩
  · rw [rested_no n g h]
    obtain ⟨x0, x1, x2, x3, x4, x5, x6, x7, x8, x9, x10, x11, x12⟩ := c
    simp only [Cl.arr] at h ⊢
    go_enter Try.func15, Try.ntmps15
    go_wp2
    go_ret
    exact ⟨rfl, Kept.one _ _⟩

set_option maxRecDepth 100000 in
set_option maxHeartbeats 1000000 in
theorem rkey_any (c : Cl) (w : World) : Calls Try.prog 11 #[.agg c.arr] w fun e w' => e = .returned (.agg #[.int .i64 c.n, .int .i64 c.i, .int .i64 c.s, .int .i64 c.att]) ∧ Kept w w' := by
  obtain ⟨x0, x1, x2, x3, x4, x5, x6, x7, x8, x9, x10, x11, x12⟩ := c
  simp only [Cl.arr]
  go_enter Try.func11, Try.ntmps11
  go_wp2
  refine bodyPost_ret (results_cell_row rfl _ _ (w.heap.size + 1) 42 #[.int .i64 x0, .int .i64 x1, .int .i64 x2, .int .i64 x5] (0, 0) _ rfl ((Bl.start [(_, _), (_, _)] w).blk 1 rfl) Try.underlying42 rfl (by kernel_rfl)) rfl ⟨rfl, (Bl.start [(_, _), (_, _)] w).kept⟩

set_option maxRecDepth 100000 in
set_option maxHeartbeats 1000000 in
theorem good_any (c : Cl) (n : Int) (w : World) : Calls Try.prog 21 #[.agg c.arr, .int .i64 n] w fun e w' => e = .returned (.agg (good c n).arr) ∧ Kept w w' := by
  obtain ⟨W, hW, hB⟩ : ∃ W, (w.alloc (.cells c.arr 31)).alloc (.cells #[.int .i64 0, .int .i64 0, .int .i64 0, .int .i64 0, .int .i64 0, .int .i64 0, .int .i64 0, .int .i64 0, .int .i64 0, .bool false, .int .i64 0, .int .i64 0, .int .i64 0] 31) = W ∧ Bl w W [(c.arr, 31), (#[.int .i64 0, .int .i64 0, .int .i64 0, .int .i64 0, .int .i64 0, .int .i64 0, .int .i64 0, .int .i64 0, .int .i64 0, .bool false, .int .i64 0, .int .i64 0, .int .i64 0], 31)] := ⟨_, rfl, Bl.start [(_, _), (_, _)] w⟩
  have HW := Lib.hid hW
  have HB := Lib.hid hB
  clear hW
  by_cases h : c.st = 1
  · have hE := ends_any c 0
    obtain ⟨d, hd⟩ : ∃ d, ends c 0 = d := ⟨_, rfl⟩
    rw [hd] at hE
    have HD := Lib.hid (show good c n = { d with va := max 0 (min n 2147483647) } by rw [good_on n h, ← hd, ends_on 0 (by omega)]; rfl)
    have HV := Lib.hid (show d.va = 0 by rw [← hd, ends_on 0 (by omega)])
    have x6 : W.cell? ⟨w.heap.size, 6, none⟩ = some (.int .i64 1) := by rw [← h]; exact hB.cell 0 6 rfl
    have CE := Lib.hid hE
    clear hE hd h
    go_enter Try.func21, Try.ntmps21
    go_upto_region 1 with fail
    rw [HW.out]
    go_upto_region 4 with (first
      | (go_at_call 23; refine (CE.out _).mono ?_; rintro e u ⟨rfl, hk⟩)
      | (refine load_w 31 (.tmp 2) rfl w.heap.size rfl rfl c.arr 13 (HB.out.blk 0 rfl) Try.underlying31 rfl info_cl ?_)
      | (refine wpList_store_row rfl 31 (.tmp 2) (.tmp 10) rfl w.heap.size _ rfl rfl 31 _ ((HB.out.go hk).blk 0 rfl) info_cl rfl (by kernel_rfl) ?_))
    have hX := (HB.out.go hk).row 0 rfl d.arr
    obtain ⟨V, hV⟩ : ∃ V, u.setRow w.heap.size d.arr = V := ⟨_, rfl⟩
    rw [show u.setRow (w.heap.size + 0) d.arr = V from hV] at hX
    rw [hV]
    have HX := Lib.hid hX
    have y11 : V.cell? ⟨w.heap.size, 11, none⟩ = some (.int .i64 d.va) := hX.cell 0 11 rfl
    have f11 : V.frozen? ⟨w.heap.size, 11, none⟩ = false := hX.free 0 11 rfl
    clear hk hV hX x6 hB
    go_upto_region 5 with fail
    have hY := HX.out.put 0 11 rfl (.int .i64 (max 0 (min n 2147483647)))
    have HY := Lib.hid (hY.as (L' := [(({ d with va := max 0 (min n 2147483647) } : Cl).arr, 31), (#[.int .i64 0, .int .i64 0, .int .i64 0, .int .i64 0, .int .i64 0, .int .i64 0, .int .i64 0, .int .i64 0, .int .i64 0, .bool false, .int .i64 0, .int .i64 0, .int .i64 0], 31)]) rfl)
    clear y11 f11 hY
    go_wp2_with (first | (refine load_w 31 (.tmp 2) rfl w.heap.size rfl rfl ({ d with va := max 0 (min n 2147483647) } : Cl).arr 13 (HY.out.blk 0 rfl) Try.underlying31 rfl info_cl ?_) | (refine wpList_store_row rfl 31 (.tmp 4) (.tmp 15) rfl (w.heap.size + 1) _ rfl rfl 31 _ (HY.out.blk 1 rfl) info_cl rfl (by kernel_rfl) ?_))
    refine bodyPost_ret (results_cell_row rfl _ _ (w.heap.size + 1) 31 _ (0, 0) _ rfl ((HY.out.row 1 rfl _).blk 1 rfl) Try.underlying31 rfl info_cl) rfl ⟨by rw [HD.out], (HY.out.row 1 rfl _).kept⟩
  · rw [good_no n h]
    have x6 : W.cell? ⟨w.heap.size, 6, none⟩ = some (.int .i64 c.st) := hB.cell 0 6 rfl
    clear hB
    go_enter Try.func21, Try.ntmps21
    go_upto_region 1 with fail
    rw [HW.out]
    go_wp2_with (first | (refine load_w 31 (.tmp 2) rfl w.heap.size rfl rfl c.arr 13 (HB.out.blk 0 rfl) Try.underlying31 rfl info_cl ?_) | (refine wpList_store_row rfl 31 (.tmp 4) (.tmp 8) rfl (w.heap.size + 1) _ rfl rfl 31 _ (HB.out.blk 1 rfl) info_cl rfl (by kernel_rfl) ?_))
    refine bodyPost_ret (results_cell_row rfl _ _ (w.heap.size + 1) 31 _ (0, 0) _ rfl ((HB.out.row 1 rfl _).blk 1 rfl) Try.underlying31 rfl info_cl) rfl ⟨rfl, (HB.out.row 1 rfl _).kept⟩

set_option maxRecDepth 100000 in
set_option maxHeartbeats 1000000 in
theorem rgood_any (c : Cl) (n : Int) (w : World) : Calls Try.prog 25 #[.agg c.arr, .int .i64 n] w fun e w' => e = .returned (.agg (good c n).arr) ∧ Kept w w' := by
  obtain ⟨W, hW, hB⟩ : ∃ W, (w.alloc (.cells c.arr 25)).alloc (.cells #[.int .i64 0, .int .i64 0, .int .i64 0, .int .i64 0, .int .i64 0, .int .i64 0, .int .i64 0, .int .i64 0, .int .i64 0, .bool false, .int .i64 0, .int .i64 0, .int .i64 0] 25) = W ∧ Bl w W [(c.arr, 25), (#[.int .i64 0, .int .i64 0, .int .i64 0, .int .i64 0, .int .i64 0, .int .i64 0, .int .i64 0, .int .i64 0, .int .i64 0, .bool false, .int .i64 0, .int .i64 0, .int .i64 0], 25)] := ⟨_, rfl, Bl.start [(_, _), (_, _)] w⟩
  have HW := Lib.hid hW
  have HB := Lib.hid hB
  clear hW
  by_cases h : c.st = 1
  · have hE := rends_any c 0
    obtain ⟨d, hd⟩ : ∃ d, ends c 0 = d := ⟨_, rfl⟩
    rw [hd] at hE
    have HD := Lib.hid (show good c n = { d with va := max 0 (min n 2147483647) } by rw [good_on n h, ← hd, ends_on 0 (by omega)]; rfl)
    have HV := Lib.hid (show d.va = 0 by rw [← hd, ends_on 0 (by omega)])
    have x6 : W.cell? ⟨w.heap.size, 6, none⟩ = some (.int .i64 1) := by rw [← h]; exact hB.cell 0 6 rfl
    have CE := Lib.hid hE
    clear hE hd h
    go_enter Try.func25, Try.ntmps25
    go_upto_region 1 with fail
    rw [HW.out]
    go_upto_region 3 with (first
      | (go_at_call 28; refine (CE.out _).mono ?_; rintro e u ⟨rfl, hk⟩)
      | (refine load_w 25 (.tmp 2) rfl w.heap.size rfl rfl c.arr 13 (HB.out.blk 0 rfl) Try.underlying25 rfl info_rcl ?_)
      | (refine wpList_store_row rfl 25 (.tmp 2) (.tmp 9) rfl w.heap.size _ rfl rfl 25 _ ((HB.out.go hk).blk 0 rfl) info_rcl rfl (by kernel_rfl) ?_))
    have hX := (HB.out.go hk).row 0 rfl d.arr
    obtain ⟨V, hV⟩ : ∃ V, u.setRow w.heap.size d.arr = V := ⟨_, rfl⟩
    rw [show u.setRow (w.heap.size + 0) d.arr = V from hV] at hX
    rw [hV]
    have HX := Lib.hid hX
    have y11 : V.cell? ⟨w.heap.size, 11, none⟩ = some (.int .i64 d.va) := hX.cell 0 11 rfl
    have f11 : V.frozen? ⟨w.heap.size, 11, none⟩ = false := hX.free 0 11 rfl
    clear hk hV hX x6 hB
    by_cases h1 : n > 0
    · by_cases h2 : n > 2147483647
      · have hY := (HX.out.put 0 11 rfl (.int .i64 n)).put 0 11 rfl (.int .i64 2147483647)
        have HY := Lib.hid (hY.as (L' := [(({ d with va := max 0 (min n 2147483647) } : Cl).arr, 25), (#[.int .i64 0, .int .i64 0, .int .i64 0, .int .i64 0, .int .i64 0, .int .i64 0, .int .i64 0, .int .i64 0, .int .i64 0, .bool false, .int .i64 0, .int .i64 0, .int .i64 0], 25)]) (by rw [show max 0 (min n 2147483647) = 2147483647 by omega]; rfl))
        clear hY
        go_upto_region 5 with fail
        have z11 : (V.setCell ⟨w.heap.size, 11, none⟩ (.int .i64 n)).cell? ⟨w.heap.size, 11, none⟩ = some (.int .i64 n) := (HX.out.put 0 11 rfl (.int .i64 n)).cell 0 11 rfl
        have g11 : (V.setCell ⟨w.heap.size, 11, none⟩ (.int .i64 n)).frozen? ⟨w.heap.size, 11, none⟩ = false := (HX.out.put 0 11 rfl (.int .i64 n)).free 0 11 rfl
        clear y11 f11
        go_upto_region 7 with fail
        clear z11 g11
        go_wp2_with (first | (refine load_w 25 (.tmp 2) rfl w.heap.size rfl rfl ({ d with va := max 0 (min n 2147483647) } : Cl).arr 13 (HY.out.blk 0 rfl) Try.underlying25 rfl info_rcl ?_) | (refine wpList_store_row rfl 25 (.tmp 4) (.tmp 17) rfl (w.heap.size + 1) _ rfl rfl 25 _ (HY.out.blk 1 rfl) info_rcl rfl (by kernel_rfl) ?_))
        refine bodyPost_ret (results_cell_row rfl _ _ (w.heap.size + 1) 25 _ (0, 0) _ rfl ((HY.out.row 1 rfl _).blk 1 rfl) Try.underlying25 rfl info_rcl) rfl ⟨by rw [HD.out], (HY.out.row 1 rfl _).kept⟩
      · have hY := HX.out.put 0 11 rfl (.int .i64 n)
        have HY := Lib.hid (hY.as (L' := [(({ d with va := max 0 (min n 2147483647) } : Cl).arr, 25), (#[.int .i64 0, .int .i64 0, .int .i64 0, .int .i64 0, .int .i64 0, .int .i64 0, .int .i64 0, .int .i64 0, .int .i64 0, .bool false, .int .i64 0, .int .i64 0, .int .i64 0], 25)]) (by rw [show max 0 (min n 2147483647) = n by omega]; rfl))
        clear hY
        go_upto_region 5 with fail
        clear y11 f11
        go_wp2_with (first | (refine load_w 25 (.tmp 2) rfl w.heap.size rfl rfl ({ d with va := max 0 (min n 2147483647) } : Cl).arr 13 (HY.out.blk 0 rfl) Try.underlying25 rfl info_rcl ?_) | (refine wpList_store_row rfl 25 (.tmp 4) (.tmp 17) rfl (w.heap.size + 1) _ rfl rfl 25 _ (HY.out.blk 1 rfl) info_rcl rfl (by kernel_rfl) ?_))
        refine bodyPost_ret (results_cell_row rfl _ _ (w.heap.size + 1) 25 _ (0, 0) _ rfl ((HY.out.row 1 rfl _).blk 1 rfl) Try.underlying25 rfl info_rcl) rfl ⟨by rw [HD.out], (HY.out.row 1 rfl _).kept⟩
    · have HD2 := Lib.hid (show ({ d with va := max 0 (min n 2147483647) } : Cl) = d by rw [show max 0 (min n 2147483647) = d.va by rw [HV.out]; omega])
      have h2 : ¬ n > 2147483647 := by omega
      clear y11 f11
      go_wp2_with (first | (refine load_w 25 (.tmp 2) rfl w.heap.size rfl rfl d.arr 13 (HX.out.blk 0 rfl) Try.underlying25 rfl info_rcl ?_) | (refine wpList_store_row rfl 25 (.tmp 4) (.tmp 17) rfl (w.heap.size + 1) _ rfl rfl 25 _ (HX.out.blk 1 rfl) info_rcl rfl (by kernel_rfl) ?_))
      refine bodyPost_ret (results_cell_row rfl _ _ (w.heap.size + 1) 25 _ (0, 0) _ rfl ((HX.out.row 1 rfl _).blk 1 rfl) Try.underlying25 rfl info_rcl) rfl ⟨by rw [HD.out, HD2.out], (HX.out.row 1 rfl _).kept⟩
  · rw [good_no n h]
    have x6 : W.cell? ⟨w.heap.size, 6, none⟩ = some (.int .i64 c.st) := hB.cell 0 6 rfl
    clear hB
    go_enter Try.func25, Try.ntmps25
    go_upto_region 1 with fail
    rw [HW.out]
    go_wp2_with (first | (refine load_w 25 (.tmp 2) rfl w.heap.size rfl rfl c.arr 13 (HB.out.blk 0 rfl) Try.underlying25 rfl info_rcl ?_) | (refine wpList_store_row rfl 25 (.tmp 4) (.tmp 17) rfl (w.heap.size + 1) _ rfl rfl 25 _ (HB.out.blk 1 rfl) info_rcl rfl (by kernel_rfl) ?_))
    refine bodyPost_ret (results_cell_row rfl _ _ (w.heap.size + 1) 25 _ (0, 0) _ rfl ((HB.out.row 1 rfl _).blk 1 rfl) Try.underlying25 rfl info_rcl) rfl ⟨rfl, (HB.out.row 1 rfl _).kept⟩

set_option maxRecDepth 100000 in
set_option maxHeartbeats 1000000 in
theorem bad_any (c : Cl) (g : Cf) (f : Ft) (hd : c.att ≤ 9223372036854775807) (w : World) : Calls Try.prog 19 #[.agg c.arr, .agg g.arr, .agg f.arr] w fun e w' => e = .returned (.tuple #[.agg (bad c g f).1.arr, .int .i64 (bad c g f).2]) ∧ Kept w w' := by
  obtain ⟨W, hW, hB⟩ : ∃ W, (((w.alloc (.cells c.arr 31)).alloc (.cells g.arr 28)).alloc (.cells f.arr 55)).alloc (.cells #[.int .i64 0, .int .i64 0, .int .i64 0, .int .i64 0, .int .i64 0, .int .i64 0, .int .i64 0, .int .i64 0, .int .i64 0, .bool false, .int .i64 0, .int .i64 0, .int .i64 0] 31) = W ∧ Bl w W [(c.arr, 31), (g.arr, 28), (f.arr, 55), (#[.int .i64 0, .int .i64 0, .int .i64 0, .int .i64 0, .int .i64 0, .int .i64 0, .int .i64 0, .int .i64 0, .int .i64 0, .bool false, .int .i64 0, .int .i64 0, .int .i64 0], 31)] := ⟨_, rfl, Bl.start [(_, _), (_, _), (_, _), (_, _)] w⟩
  have HW := Lib.hid hW
  have HB := Lib.hid hB
  clear hW
  by_cases h : c.st = 1
  · have hc := dec_any g (asks c f) hd
    obtain ⟨a, b, hab⟩ : ∃ a b, dec g (asks c f) = (a, b) := ⟨_, _, rfl⟩
    rw [hab] at hc
    have C1 := Lib.hid hc
    have x6 : W.cell? ⟨w.heap.size, 6, none⟩ = some (.int .i64 1) := by rw [← h]; exact hB.cell 0 6 rfl
    have x5 : W.cell? ⟨w.heap.size, 5, none⟩ = some (.int .i64 c.att) := hB.cell 0 5 rfl
    have x9 : W.cell? ⟨w.heap.size, 9, none⟩ = some (.bool c.co) := hB.cell 0 9 rfl
    have y1 : W.cell? ⟨w.heap.size + 1 + 1, 1, none⟩ = some (.int .i64 f.att) := hB.cell 2 1 rfl
    have y2 : W.cell? ⟨w.heap.size + 1 + 1, 2, none⟩ = some (.bool f.com) := hB.cell 2 2 rfl
    have g1 : W.frozen? ⟨w.heap.size + 1 + 1, 1, none⟩ = false := hB.free 2 1 rfl
    have g2 : W.frozen? ⟨w.heap.size + 1 + 1, 2, none⟩ = false := hB.free 2 2 rfl
    have HH := Lib.hid h
    have HA := Lib.hid hab
    clear hc hab hB h
    go_enter Try.func19, Try.ntmps19
    go_upto_region 1 with fail
    rw [HW.out]
    go_upto_region 3 with fail
    go_region
    have hX := ((HB.out.put 2 1 rfl (.int .i64 c.att)).put 2 2 rfl (.bool c.co)).go (Kept.refl _).drew
    obtain ⟨V, hV⟩ : ∃ V, World.drew ((W.setCell ⟨w.heap.size + 1 + 1, 1, none⟩ (.int .i64 c.att)).setCell ⟨w.heap.size + 1 + 1, 2, none⟩ (.bool c.co)) = V := ⟨_, rfl⟩
    have hX2 : Bl w V [(c.arr, 31), (g.arr, 28), ((asks c f).arr, 55), (#[.int .i64 0, .int .i64 0, .int .i64 0, .int .i64 0, .int .i64 0, .int .i64 0, .int .i64 0, .int .i64 0, .int .i64 0, .bool false, .int .i64 0, .int .i64 0, .int .i64 0], 31)] := hV ▸ hX
    rw [hV]
    have HX := Lib.hid hX2
    clear hV hX hX2 x6 x5 x9 y1 y2 g1 g2 HB
    go_upto_region 5 with (first
      | (go_at_call 33; refine (C1.out _).mono ?_; rintro e u ⟨rfl, hk⟩)
      | (refine load_w 28 (.tmp 4) rfl (w.heap.size + 1) rfl rfl g.arr 14 (HX.out.blk 1 rfl) Try.underlying28 rfl info_cf ?_)
      | (refine load_w 55 (.tmp 5) rfl (w.heap.size + 1 + 1) rfl rfl (asks c f).arr 8 (HX.out.blk 2 rfl) Try.underlying55 rfl info_ft ?_))
    have hY := HX.out.go hk
    have HY := Lib.hid hY
    clear hk HX C1
    by_cases h0 : a = 0
    · have HR := Lib.hid (bad_again HH.out HA.out h0)
      have z6 : u.cell? ⟨w.heap.size, 6, none⟩ = some (.int .i64 c.st) := hY.cell 0 6 rfl
      have z8 : u.cell? ⟨w.heap.size, 8, none⟩ = some (.int .i64 c.re) := hY.cell 0 8 rfl
      have k6 : u.frozen? ⟨w.heap.size, 6, none⟩ = false := hY.free 0 6 rfl
      have k8 : u.frozen? ⟨w.heap.size, 8, none⟩ = false := hY.free 0 8 rfl
      have HS := Lib.hid (((hY.put 0 6 rfl (.int .i64 2)).put 0 8 rfl (.int .i64 b)).as (L' := [(({ c with st := 2, re := b } : Cl).arr, 31), (g.arr, 28), ((asks c f).arr, 55), (#[.int .i64 0, .int .i64 0, .int .i64 0, .int .i64 0, .int .i64 0, .int .i64 0, .int .i64 0, .int .i64 0, .int .i64 0, .bool false, .int .i64 0, .int .i64 0, .int .i64 0], 31)]) rfl)
      clear hY
      subst h0
      go_upto_region 8 with fail
      clear z6 z8 k6 k8
      go_wp2_with (first | (refine load_w 31 (.tmp 3) rfl w.heap.size rfl rfl ({ c with st := 2, re := b } : Cl).arr 13 (HS.out.blk 0 rfl) Try.underlying31 rfl info_cl ?_) | (refine wpList_store_row rfl 31 (.tmp 6) (.tmp 36) rfl (w.heap.size + 1 + 1 + 1) _ rfl rfl 31 _ (HS.out.blk 3 rfl) info_cl rfl (by kernel_rfl) ?_))
      refine bodyPost_ret (Rw.results_row_tmp rfl _ _ (w.heap.size + 3) 31 _ (0, 0) _ rfl ((HS.out.row 3 rfl _).blk 3 rfl) Try.underlying31 rfl info_cl) rfl ⟨by rw [HR.out]; rfl, (HS.out.row 3 rfl _).kept⟩
    · have HR := Lib.hid (bad_ends HH.out HA.out h0)
      have z0 : u.cell? ⟨w.heap.size + 1 + 1, 0, none⟩ = some (.int .i64 f.code) := hY.cell 2 0 rfl
      have CE := Lib.hid (ends_any c f.code)
      clear hY
      go_wp2_with (first
        | (go_at_call 23; refine (CE.out _).mono ?_; rintro e v ⟨rfl, hv⟩)
        | (refine load_w 31 (.tmp 3) rfl w.heap.size rfl rfl c.arr 13 (HY.out.blk 0 rfl) Try.underlying31 rfl info_cl ?_)
        | (refine wpList_store_row rfl 31 (.tmp 6) (.tmp 31) rfl (w.heap.size + 1 + 1 + 1) _ rfl rfl 31 _ ((HY.out.go hv).blk 3 rfl) info_cl rfl (by kernel_rfl) ?_))
      refine bodyPost_ret (Rw.results_row_tmp rfl _ _ (w.heap.size + 3) 31 _ (0, 0) _ rfl (((HY.out.go hv).row 3 rfl _).blk 3 rfl) Try.underlying31 rfl info_cl) rfl ⟨by rw [HR.out]; rfl, ((HY.out.go hv).row 3 rfl _).kept⟩
  · rw [bad_no g f h]
    have x6 : W.cell? ⟨w.heap.size, 6, none⟩ = some (.int .i64 c.st) := hB.cell 0 6 rfl
    clear hB
    go_enter Try.func19, Try.ntmps19
    go_upto_region 1 with fail
    rw [HW.out]
    go_wp2_with (first | (refine load_w 31 (.tmp 3) rfl w.heap.size rfl rfl c.arr 13 (HB.out.blk 0 rfl) Try.underlying31 rfl info_cl ?_) | (refine wpList_store_row rfl 31 (.tmp 6) (.tmp 13) rfl (w.heap.size + 3) _ rfl rfl 31 _ (HB.out.blk 3 rfl) info_cl rfl (by kernel_rfl) ?_))
    refine bodyPost_ret (Rw.results_row_tmp rfl _ _ (w.heap.size + 3) 31 _ (0, 0) _ rfl ((HB.out.row 3 rfl _).blk 3 rfl) Try.underlying31 rfl info_cl) rfl ⟨rfl, (HB.out.row 3 rfl _).kept⟩

set_option maxRecDepth 100000 in
set_option maxHeartbeats 1000000 in
theorem rbad_any (c : Cl) (g : Cf) (f : Ft) (hd : c.att ≤ 9223372036854775807) (w : World) : Calls Try.prog 27 #[.agg c.arr, .agg g.arr, .agg f.arr] w fun e w' => e = .returned (.tuple #[.agg (bad c g f).1.arr, .int .i64 (bad c g f).2]) ∧ Kept w w' := by
  obtain ⟨W, hW, hB⟩ : ∃ W, (((w.alloc (.cells c.arr 25)).alloc (.cells g.arr 28)).alloc (.cells f.arr 35)).alloc (.cells #[.int .i64 0, .int .i64 0, .int .i64 0, .int .i64 0, .int .i64 0, .int .i64 0, .int .i64 0, .int .i64 0, .int .i64 0, .bool false, .int .i64 0, .int .i64 0, .int .i64 0] 25) = W ∧ Bl w W [(c.arr, 25), (g.arr, 28), (f.arr, 35), (#[.int .i64 0, .int .i64 0, .int .i64 0, .int .i64 0, .int .i64 0, .int .i64 0, .int .i64 0, .int .i64 0, .int .i64 0, .bool false, .int .i64 0, .int .i64 0, .int .i64 0], 25)] := ⟨_, rfl, Bl.start [(_, _), (_, _), (_, _), (_, _)] w⟩
  have HW := Lib.hid hW
  have HB := Lib.hid hB
  clear hW
  by_cases h : c.st = 1
  · have hc := rdec_any g (asks c f)
    obtain ⟨a, b, hab⟩ : ∃ a b, dec g (asks c f) = (a, b) := ⟨_, _, rfl⟩
    rw [hab] at hc
    have C1 := Lib.hid hc
    have x6 : W.cell? ⟨w.heap.size, 6, none⟩ = some (.int .i64 1) := by rw [← h]; exact hB.cell 0 6 rfl
    have x5 : W.cell? ⟨w.heap.size, 5, none⟩ = some (.int .i64 c.att) := hB.cell 0 5 rfl
    have x9 : W.cell? ⟨w.heap.size, 9, none⟩ = some (.bool c.co) := hB.cell 0 9 rfl
    have y1 : W.cell? ⟨w.heap.size + 1 + 1, 1, none⟩ = some (.int .i64 f.att) := hB.cell 2 1 rfl
    have y2 : W.cell? ⟨w.heap.size + 1 + 1, 2, none⟩ = some (.bool f.com) := hB.cell 2 2 rfl
    have g1 : W.frozen? ⟨w.heap.size + 1 + 1, 1, none⟩ = false := hB.free 2 1 rfl
    have g2 : W.frozen? ⟨w.heap.size + 1 + 1, 2, none⟩ = false := hB.free 2 2 rfl
    have HH := Lib.hid h
    have HA := Lib.hid hab
    clear hc hab hB h
    go_enter Try.func27, Try.ntmps27
    go_upto_region 1 with fail
    rw [HW.out]
    go_upto_region 5 with fail
    have hX := (HB.out.put 2 1 rfl (.int .i64 c.att)).put 2 2 rfl (.bool c.co)
    obtain ⟨V, hV⟩ : ∃ V, ((W.setCell ⟨w.heap.size + 1 + 1, 1, none⟩ (.int .i64 c.att)).setCell ⟨w.heap.size + 1 + 1, 2, none⟩ (.bool c.co)) = V := ⟨_, rfl⟩
    have hX2 : Bl w V [(c.arr, 25), (g.arr, 28), ((asks c f).arr, 35), (#[.int .i64 0, .int .i64 0, .int .i64 0, .int .i64 0, .int .i64 0, .int .i64 0, .int .i64 0, .int .i64 0, .int .i64 0, .bool false, .int .i64 0, .int .i64 0, .int .i64 0], 25)] := hV ▸ hX
    rw [hV]
    have HX := Lib.hid hX2
    clear hV hX hX2 x6 x5 x9 y1 y2 g1 g2 HB
    go_upto_region 6 with (first
      | (go_at_call 35; refine (C1.out _).mono ?_; rintro e u ⟨rfl, hk⟩)
      | (refine load_w 28 (.tmp 4) rfl (w.heap.size + 1) rfl rfl g.arr 14 (HX.out.blk 1 rfl) Try.underlying28 rfl info_cf ?_)
      | (refine load_w 35 (.tmp 5) rfl (w.heap.size + 1 + 1) rfl rfl (asks c f).arr 8 (HX.out.blk 2 rfl) Try.underlying35 rfl info_rft ?_))
    have hY := HX.out.go hk
    have HY := Lib.hid hY
    clear hk HX C1
    by_cases h0 : a = 0
    · have HR := Lib.hid (bad_again HH.out HA.out h0)
      have z6 : u.cell? ⟨w.heap.size, 6, none⟩ = some (.int .i64 c.st) := hY.cell 0 6 rfl
      have z8 : u.cell? ⟨w.heap.size, 8, none⟩ = some (.int .i64 c.re) := hY.cell 0 8 rfl
      have k6 : u.frozen? ⟨w.heap.size, 6, none⟩ = false := hY.free 0 6 rfl
      have k8 : u.frozen? ⟨w.heap.size, 8, none⟩ = false := hY.free 0 8 rfl
      have HS := Lib.hid (((hY.put 0 6 rfl (.int .i64 2)).put 0 8 rfl (.int .i64 b)).as (L' := [(({ c with st := 2, re := b } : Cl).arr, 25), (g.arr, 28), ((asks c f).arr, 35), (#[.int .i64 0, .int .i64 0, .int .i64 0, .int .i64 0, .int .i64 0, .int .i64 0, .int .i64 0, .int .i64 0, .int .i64 0, .bool false, .int .i64 0, .int .i64 0, .int .i64 0], 25)]) rfl)
      clear hY
      subst h0
      go_upto_region 9 with fail
      clear z6 z8 k6 k8
      go_wp2_with (first | (refine load_w 25 (.tmp 3) rfl w.heap.size rfl rfl ({ c with st := 2, re := b } : Cl).arr 13 (HS.out.blk 0 rfl) Try.underlying25 rfl info_rcl ?_) | (refine wpList_store_row rfl 25 (.tmp 6) (.tmp 31) rfl (w.heap.size + 1 + 1 + 1) _ rfl rfl 25 _ (HS.out.blk 3 rfl) info_rcl rfl (by kernel_rfl) ?_))
      refine bodyPost_ret (Rw.results_row_tmp rfl _ _ (w.heap.size + 3) 25 _ (0, 0) _ rfl ((HS.out.row 3 rfl _).blk 3 rfl) Try.underlying25 rfl info_rcl) rfl ⟨by rw [HR.out]; rfl, (HS.out.row 3 rfl _).kept⟩
    · have HR := Lib.hid (bad_ends HH.out HA.out h0)
      have z0 : u.cell? ⟨w.heap.size + 1 + 1, 0, none⟩ = some (.int .i64 f.code) := hY.cell 2 0 rfl
      have CE := Lib.hid (rends_any c f.code)
      clear hY
      go_wp2_with (first
        | (go_at_call 28; refine (CE.out _).mono ?_; rintro e v ⟨rfl, hv⟩)
        | (refine load_w 25 (.tmp 3) rfl w.heap.size rfl rfl c.arr 13 (HY.out.blk 0 rfl) Try.underlying25 rfl info_rcl ?_)
        | (refine wpList_store_row rfl 25 (.tmp 6) (.tmp 35) rfl (w.heap.size + 1 + 1 + 1) _ rfl rfl 25 _ ((HY.out.go hv).blk 3 rfl) info_rcl rfl (by kernel_rfl) ?_))
      refine bodyPost_ret (Rw.results_row_tmp rfl _ _ (w.heap.size + 3) 25 _ (0, 0) _ rfl (((HY.out.go hv).row 3 rfl _).blk 3 rfl) Try.underlying25 rfl info_rcl) rfl ⟨by rw [HR.out]; rfl, ((HY.out.go hv).row 3 rfl _).kept⟩
  · rw [bad_no g f h]
    have x6 : W.cell? ⟨w.heap.size, 6, none⟩ = some (.int .i64 c.st) := hB.cell 0 6 rfl
    clear hB
    go_enter Try.func27, Try.ntmps27
    go_upto_region 1 with fail
    rw [HW.out]
    go_wp2_with (first | (refine load_w 25 (.tmp 3) rfl w.heap.size rfl rfl c.arr 13 (HB.out.blk 0 rfl) Try.underlying25 rfl info_rcl ?_) | (refine wpList_store_row rfl 25 (.tmp 6) (.tmp 13) rfl (w.heap.size + 3) _ rfl rfl 25 _ (HB.out.blk 3 rfl) info_rcl rfl (by kernel_rfl) ?_))
    refine bodyPost_ret (Rw.results_row_tmp rfl _ _ (w.heap.size + 3) 25 _ (0, 0) _ rfl ((HB.out.row 3 rfl _).blk 3 rfl) Try.underlying25 rfl info_rcl) rfl ⟨rfl, (HB.out.row 3 rfl _).kept⟩

set_option maxRecDepth 100000 in
set_option maxHeartbeats 1000000 in
theorem theirs_any (c : Cl) (w : World) : Calls Try.prog 9 #[.agg c.arr] w fun e w' => e = .returned (.agg c.arr) ∧ Kept w w' := by
  obtain ⟨x0, x1, x2, x3, x4, x5, x6, x7, x8, x9, x10, x11, x12⟩ := c
  simp only [Cl.arr]
  go_enter Try.func9, Try.ntmps9
  go_wp2
  refine bodyPost_ret (results_cell_row rfl _ _ (w.heap.size + 1) 25 _ (0, 0) _ rfl (row2' _ _ _ _ _) Try.underlying25 rfl info_rcl) rfl ⟨rfl, kept2 _ _ _⟩

set_option maxRecDepth 100000 in
set_option maxHeartbeats 1000000 in
theorem mine_any (f : Ft) (w : World) : Calls Try.prog 20 #[.agg f.arr] w fun e w' => e = .returned (.agg f.arr) ∧ Kept w w' := by
  obtain ⟨code, att, com, push, hav, now, due, jit⟩ := f
  simp only [Ft.arr]
  go_enter Try.func20, Try.ntmps20
  go_wp2
  refine bodyPost_ret (results_cell_row rfl _ _ (w.heap.size + 1) 55 _ (0, 0) _ rfl (row2' _ _ _ _ _) Try.underlying55 rfl info_ft) rfl ⟨rfl, kept2 _ _ _⟩

end Go.Proofs.Ytpicjcophjekpaa.Cl
