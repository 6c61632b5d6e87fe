/- Package call, and the document's own answers for it: a call at the node that makes it. Package call, and the document's own answers for it: an attempt that went well, or badly; the key; what has rested, and what was lost. -/
import Derived.Test.YtncdiggejofbbaaGreatDoorPo
import Derived.Test.YtncdiggejofbbaaGreatDoorCdC
import Derived.Test.YtncdiggejofbbaaGreatDoorClT
import Derived.Test.YtncdiggejofbbaaGreatDoorBlk
import Derived.Test.YtncdiggejofbbaaGreatDoorTk
namespace Go.Proofs.YtncdiggejofbbaaGreatDoor.Cl
open Go.RowKit Go.Sort St Ad Po
open Go.Proofs.YtncdiggejofbbaaGreatDoor.Id (quiet_at boxed1)
set_option linter.unusedVariables false

/-- its numbers are small enough to be counted up -/
def Cl.Fit (c : Cl) : Prop := Wd c.att ∧ 0 ≤ c.tr ∧ c.tr ≤ 2000000
section
variable (c : Cl) (n : Int)
def begin : Cl := if (c.st = 0 ∨ c.st = 2) ∧ c.att < 5 then { c with att := c.att + 1, tr := c.tr + 1, st := 1, se := Tk.clamp n, re := 0 } else c
def ends : Cl := if c.st = 3 then c else { c with st := 3, cd := Cd.clean n, va := 0, re := 0 }
def good : Cl := if c.st = 1 then { c with st := 3, cd := 0, va := max 0 (min n 2147483647), re := 0 } else c
def taken : Cl := if c.st = 1 then { c with co := true } else c
/-- what the policy is asked of it -/
def asks (f : Ft) : Ft := { f with att := c.att, com := c.co }
def bad (g : Cf) (f : Ft) : Cl × Int :=
  if c.st = 1 then if (dec g (asks c f)).1 = 0 then ({ c with st := 2, re := (dec g (asks c f)).2 }, 0) else (ends c f.code, (dec g (asks c f)).1) else (c, 1)
end

theorem info_cl : (Tryz.prog.info? 41).map (·.size) = some 13 := by kernel_rfl
theorem info_rcl : (Tryz.prog.info? 33).map (·.size) = some 13 := by kernel_rfl

theorem ends_over {c : Cl} (n : Int) (h : c.st = 3) : ends c n = c := by unfold ends; rw [if_pos h]
theorem ends_on {c : Cl} (n : Int) (h : ¬ c.st = 3) : ends c n = { c with st := 3, cd := Cd.clean n, va := 0, re := 0 } := by unfold ends; rw [if_neg h]

theorem row2 (w : World) (t : TypeId) (xs ys : Array Value) : ((w.alloc (.cells xs t)).alloc (.cells ys t)).heap[w.heap.size + 1]? = some (.cells ys t (0, 0)) := by
  have := blk_new (w.alloc (.cells xs t)) (.cells ys t)
  rwa [show (w.alloc (.cells xs t)).heap.size = w.heap.size + 1 by simp] at this
theorem row1 (w : World) (t : TypeId) (xs ys : Array Value) : ((w.alloc (.cells xs t)).alloc (.cells ys t)).heap[w.heap.size]? = some (.cells xs t (0, 0)) :=
  kept_blk (Kept.one _ _) (blk_new w _)
theorem kept2 (w : World) (o p : Obj) : Kept w ((w.alloc o).alloc p) := (Kept.one w o).more p

theorem begin_on {c : Cl} (n : Int) (h : c.st = 0 ∨ c.st = 2) (h2 : c.att < 5) : begin c n = { c with att := c.att + 1, tr := c.tr + 1, st := 1, se := Tk.clamp n, re := 0 } := by unfold begin; rw [if_pos ⟨h, h2⟩]
theorem begin_no {c : Cl} (n : Int) (h : ¬ ((c.st = 0 ∨ c.st = 2) ∧ c.att < 5)) : begin c n = c := by unfold begin; rw [if_neg h]
theorem good_on {c : Cl} (n : Int) (h : c.st = 1) : good c n = { c with st := 3, cd := 0, va := max 0 (min n 2147483647), re := 0 } := by unfold good; rw [if_pos h]
theorem good_no {c : Cl} (n : Int) (h : ¬ c.st = 1) : good c n = c := by unfold good; rw [if_neg h]
theorem taken_on {c : Cl} (h : c.st = 1) : taken c = { c with co := true } := by unfold taken; rw [if_pos h]
theorem taken_no {c : Cl} (h : ¬ c.st = 1) : taken c = c := by unfold taken; rw [if_neg h]

set_option maxRecDepth 100000 in
set_option maxHeartbeats 1000000 in
theorem ends_any (c : Cl) (n : Int) (w : World) : Calls Tryz.prog 22 #[.agg c.arr, .int .i64 n] w fun e w' => e = .returned (.agg (ends c n).arr) ∧ Kept w w' := by
  by_cases h : c.st = 3
  · rw [ends_over n h]
    obtain ⟨x0, x1, x2, x3, x4, x5, x6, x7, x8, x9, x10, x11, x12⟩ := c
    simp only [Cl.arr] at h ⊢
    subst h
    go_enter Tryz.func22, Tryz.ntmps22
    go_wp2
    refine bodyPost_ret (results_cell_row rfl _ _ (w.heap.size + 1) 41 _ (0, 0) _ rfl (row2 _ _ _ _) Tryz.underlying41 rfl info_cl) rfl ⟨rfl, kept2 _ _ _⟩
  · rw [ends_on n h]
    obtain ⟨x0, x1, x2, x3, x4, x5, x6, x7, x8, x9, x10, x11, x12⟩ := c
    simp only [Cl.arr] at h ⊢
    obtain ⟨z, hz⟩ : ∃ z, Cd.clean n = z := ⟨_, rfl⟩
    rw [hz]
    have C1 := Lib.hid (show ∀ u, Calls Tryz.prog 41 #[.int .i64 n] u fun e w' => e = .returned (.int .i64 z) ∧ u = w' from fun u => by rw [← hz]; exact Cd.clean_any _ u)
    clear hz
    go_enter Tryz.func22, Tryz.ntmps22
    go_wp2_with (go_at_call 41; refine (C1.out _).mono ?_; rintro e w' ⟨rfl, rfl⟩)
    refine bodyPost_ret (results_cell_row rfl _ _ (w.heap.size + 1) 41 _ (0, 0) _ rfl (row2 _ _ _ _) Tryz.underlying41 rfl info_cl) rfl ⟨rfl, kept2 _ _ _⟩


set_option maxRecDepth 100000 in
set_option maxHeartbeats 1000000 in
theorem begin_any (c : Cl) (hc : c.Fit) (n : Int) (w : World) : Calls Tryz.prog 21 #[.agg c.arr, .int .i64 n] w fun e w' => e = .returned (.agg (begin c n).arr) ∧ Kept w w' := by
  obtain ⟨⟨a1, a2⟩, a3, a4⟩ := hc
  by_cases h : (c.st = 0 ∨ c.st = 2) ∧ c.att < 5
  · rw [begin_on n h.1 h.2]
    obtain ⟨x0, x1, x2, x3, x4, x5, x6, x7, x8, x9, x10, x11, x12⟩ := c
    simp only [Cl.arr] at h a1 a2 a3 a4 ⊢
    obtain ⟨z, hz⟩ : ∃ z, Tk.clamp n = z := ⟨_, rfl⟩
    rw [hz]
    have C1 := Lib.hid (show ∀ u, Calls Tryz.prog 29 #[.int .i64 n] u fun e w' => e = .returned (.int .i64 z) ∧ u = w' from fun u => by rw [← hz]; exact Tk.clamp_any _ u)
    clear hz
    obtain ⟨h1, h2⟩ := h
    rcases h1 with h1 | h1
    all_goals
      subst h1
      go_enter Tryz.func21, Tryz.ntmps21
      go_wp2_with (go_at_call 29; refine (C1.out _).mono ?_; rintro e w' ⟨rfl, rfl⟩)
      refine bodyPost_ret (results_cell_row rfl _ _ (w.heap.size + 1) 41 _ (0, 0) _ rfl (row2 _ _ _ _) Tryz.underlying41 rfl info_cl) rfl ⟨rfl, kept2 _ _ _⟩
  · rw [begin_no n h]
    obtain ⟨x0, x1, x2, x3, x4, x5, x6, x7, x8, x9, x10, x11, x12⟩ := c
    simp only [Cl.arr] at h a1 a2 a3 a4 ⊢
    by_cases h1 : x6 = 0
    · have h2 : 5 ≤ x5 := by omega
      subst h1
      clear h
      go_enter Tryz.func21, Tryz.ntmps21
      go_wp2
      refine bodyPost_ret (results_cell_row rfl _ _ (w.heap.size + 1) 41 _ (0, 0) _ rfl (row2 _ _ _ _) Tryz.underlying41 rfl info_cl) rfl ⟨rfl, kept2 _ _ _⟩
    by_cases h3 : x6 = 2
    · have h2 : 5 ≤ x5 := by omega
      subst h3
      clear h
      go_enter Tryz.func21, Tryz.ntmps21
      go_wp2
      refine bodyPost_ret (results_cell_row rfl _ _ (w.heap.size + 1) 41 _ (0, 0) _ rfl (row2 _ _ _ _) Tryz.underlying41 rfl info_cl) rfl ⟨rfl, kept2 _ _ _⟩
    clear h
    go_enter Tryz.func21, Tryz.ntmps21
    go_wp2
    refine bodyPost_ret (results_cell_row rfl _ _ (w.heap.size + 1) 41 _ (0, 0) _ rfl (row2 _ _ _ _) Tryz.underlying41 rfl info_cl) rfl ⟨rfl, kept2 _ _ _⟩




end Go.Proofs.YtncdiggejofbbaaGreatDoor.Cl

namespace Go.Proofs.YtncdiggejofbbaaGreatDoor.Cl
open Go.RowKit Go.Sort St Ad Po Blk
open Go.Proofs.YtncdiggejofbbaaGreatDoor.Id (quiet_at boxed1)
set_option linter.unusedVariables false

theorem row2' (w : World) (t t' : TypeId) (xs ys : Array Value) : ((w.alloc (.cells xs t)).alloc (.cells ys t')).heap[w.heap.size + 1]? = some (.cells ys t' (0, 0)) := by
  have := blk_new (w.alloc (.cells xs t)) (.cells ys t')
  rwa [show (w.alloc (.cells xs t)).heap.size = w.heap.size + 1 by simp] at this
def lost (c : Cl) (n wt g : Int) : Bool := c.st == 1 && Tk.past n (Tk.add c.se wt) g
def rested (c : Cl) (n g : Int) : Bool := c.st == 2 && Tk.past n c.re g
theorem bad_no {c : Cl} (g : Cf) (f : Ft) (h : ¬ c.st = 1) : bad c g f = (c, 1) := by unfold bad; rw [if_neg h]
theorem bad_again {c : Cl} {g : Cf} {f : Ft} {a b : Int} (h : c.st = 1) (h2 : dec g (asks c f) = (a, b)) (h3 : a = 0) : bad c g f = ({ c with st := 2, re := b }, 0) := by unfold bad; rw [if_pos h, h2, if_pos h3]
theorem bad_ends {c : Cl} {g : Cf} {f : Ft} {a b : Int} (h : c.st = 1) (h2 : dec g (asks c f) = (a, b)) (h3 : ¬ a = 0) : bad c g f = (ends c f.code, a) := by unfold bad; rw [if_pos h, h2, if_neg h3]
theorem lost_no {c : Cl} (n wt g : Int) (h : ¬ c.st = 1) : lost c n wt g = false := by unfold lost; rw [beq_eq_false_iff_ne.2 h, Bool.false_and]
theorem lost_on {c : Cl} (n wt g : Int) (h : c.st = 1) : lost c n wt g = Tk.past n (Tk.add c.se wt) g := by unfold lost; rw [beq_iff_eq.2 h, Bool.true_and]
theorem rested_no {c : Cl} (n g : Int) (h : ¬ c.st = 2) : rested c n g = false := by unfold rested; rw [beq_eq_false_iff_ne.2 h, Bool.false_and]
theorem rested_on {c : Cl} (n g : Int) (h : c.st = 2) : rested c n g = Tk.past n c.re g := by unfold rested; rw [beq_iff_eq.2 h, Bool.true_and]
theorem ret_bad {a b : Cl × Int} (h : a = b) : Ending.returned (.tuple #[.agg a.1.arr, .int .i64 a.2]) = .returned (.tuple #[.agg b.1.arr, .int .i64 b.2]) := by rw [h]



set_option maxRecDepth 100000 in
set_option maxHeartbeats 1000000 in
theorem key_any (c : Cl) (w : World) : Calls Tryz.prog 43 #[.agg c.arr] w fun e w' => e = .returned (.agg #[.int .i64 c.n, .int .i64 c.i, .int .i64 c.s, .int .i64 c.att]) ∧ Kept w w' := by
  obtain ⟨x0, x1, x2, x3, x4, x5, x6, x7, x8, x9, x10, x11, x12⟩ := c
  simp only [Cl.arr]
  go_enter Tryz.func43, Tryz.ntmps43
  go_wp2
  refine bodyPost_ret (results_cell_row rfl _ _ (w.heap.size + 1) 28 #[.int .i64 x0, .int .i64 x1, .int .i64 x2, .int .i64 x5] (0, 0) _ rfl ((Bl.start [(_, _), (_, _)] w).blk 1 rfl) Tryz.underlying28 rfl (by kernel_rfl)) rfl ⟨rfl, (Bl.start [(_, _), (_, _)] w).kept⟩




set_option maxRecDepth 100000 in
set_option maxHeartbeats 1000000 in
theorem good_any (c : Cl) (n : Int) (w : World) : Calls Tryz.prog 20 #[.agg c.arr, .int .i64 n] w fun e w' => e = .returned (.agg (good c n).arr) ∧ Kept w w' := by
  obtain ⟨W, hW, hB⟩ : ∃ W, (w.alloc (.cells c.arr 41)).alloc (.cells #[.int .i64 0, .int .i64 0, .int .i64 0, .int .i64 0, .int .i64 0, .int .i64 0, .int .i64 0, .int .i64 0, .int .i64 0, .bool false, .int .i64 0, .int .i64 0, .int .i64 0] 41) = W ∧ Bl w W [(c.arr, 41), (#[.int .i64 0, .int .i64 0, .int .i64 0, .int .i64 0, .int .i64 0, .int .i64 0, .int .i64 0, .int .i64 0, .int .i64 0, .bool false, .int .i64 0, .int .i64 0, .int .i64 0], 41)] := ⟨_, rfl, Bl.start [(_, _), (_, _)] w⟩
  have HW := Lib.hid hW
  have HB := Lib.hid hB
  clear hW
  by_cases h : c.st = 1
  · have hE := ends_any c 0
    obtain ⟨d, hd⟩ : ∃ d, ends c 0 = d := ⟨_, rfl⟩
    rw [hd] at hE
    have HD := Lib.hid (show good c n = { d with va := max 0 (min n 2147483647) } by rw [good_on n h, ← hd, ends_on 0 (by omega)]; rfl)
    have HV := Lib.hid (show d.va = 0 by rw [← hd, ends_on 0 (by omega)])
    have x6 : W.cell? ⟨w.heap.size, 6, none⟩ = some (.int .i64 1) := by rw [← h]; exact hB.cell 0 6 rfl
    have CE := Lib.hid hE
    clear hE hd h
    go_enter Tryz.func20, Tryz.ntmps20
    go_upto_region 1 with fail
    rw [HW.out]
    go_upto_region 4 with (first
      | (go_at_call 22; refine (CE.out _).mono ?_; rintro e u ⟨rfl, hk⟩)
      | (refine load_w 41 (.tmp 2) rfl w.heap.size rfl rfl c.arr 13 (HB.out.blk 0 rfl) Tryz.underlying41 rfl info_cl ?_)
      | (refine wpList_store_row rfl 41 (.tmp 2) (.tmp 10) rfl w.heap.size _ rfl rfl 41 _ ((HB.out.go hk).blk 0 rfl) info_cl rfl (by kernel_rfl) ?_))
    have hX := (HB.out.go hk).row 0 rfl d.arr
    obtain ⟨V, hV⟩ : ∃ V, u.setRow w.heap.size d.arr = V := ⟨_, rfl⟩
    rw [show u.setRow (w.heap.size + 0) d.arr = V from hV] at hX
    rw [hV]
    have HX := Lib.hid hX
    have y11 : V.cell? ⟨w.heap.size, 11, none⟩ = some (.int .i64 d.va) := hX.cell 0 11 rfl
    have f11 : V.frozen? ⟨w.heap.size, 11, none⟩ = false := hX.free 0 11 rfl
    clear hk hV hX x6 hB
    go_upto_region 5 with fail
    have hY := HX.out.put 0 11 rfl (.int .i64 (max 0 (min n 2147483647)))
    have HY := Lib.hid (hY.as (L' := [(({ d with va := max 0 (min n 2147483647) } : Cl).arr, 41), (#[.int .i64 0, .int .i64 0, .int .i64 0, .int .i64 0, .int .i64 0, .int .i64 0, .int .i64 0, .int .i64 0, .int .i64 0, .bool false, .int .i64 0, .int .i64 0, .int .i64 0], 41)]) rfl)
    clear y11 f11 hY
    go_wp2_with (first | (refine load_w 41 (.tmp 2) rfl w.heap.size rfl rfl ({ d with va := max 0 (min n 2147483647) } : Cl).arr 13 (HY.out.blk 0 rfl) Tryz.underlying41 rfl info_cl ?_) | (refine wpList_store_row rfl 41 (.tmp 4) (.tmp 15) rfl (w.heap.size + 1) _ rfl rfl 41 _ (HY.out.blk 1 rfl) info_cl rfl (by kernel_rfl) ?_))
    refine bodyPost_ret (results_cell_row rfl _ _ (w.heap.size + 1) 41 _ (0, 0) _ rfl ((HY.out.row 1 rfl _).blk 1 rfl) Tryz.underlying41 rfl info_cl) rfl ⟨by rw [HD.out], (HY.out.row 1 rfl _).kept⟩
  · rw [good_no n h]
    have x6 : W.cell? ⟨w.heap.size, 6, none⟩ = some (.int .i64 c.st) := hB.cell 0 6 rfl
    clear hB
    go_enter Tryz.func20, Tryz.ntmps20
    go_upto_region 1 with fail
    rw [HW.out]
    go_wp2_with (first | (refine load_w 41 (.tmp 2) rfl w.heap.size rfl rfl c.arr 13 (HB.out.blk 0 rfl) Tryz.underlying41 rfl info_cl ?_) | (refine wpList_store_row rfl 41 (.tmp 4) (.tmp 8) rfl (w.heap.size + 1) _ rfl rfl 41 _ (HB.out.blk 1 rfl) info_cl rfl (by kernel_rfl) ?_))
    refine bodyPost_ret (results_cell_row rfl _ _ (w.heap.size + 1) 41 _ (0, 0) _ rfl ((HB.out.row 1 rfl _).blk 1 rfl) Tryz.underlying41 rfl info_cl) rfl ⟨rfl, (HB.out.row 1 rfl _).kept⟩






end Go.Proofs.YtncdiggejofbbaaGreatDoor.Cl
