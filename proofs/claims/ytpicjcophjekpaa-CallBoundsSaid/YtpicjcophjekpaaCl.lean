/- Package call, and the document's own answers for it: a call at the node that makes it. -/
import Derived.Test.YtpicjcophjekpaaPo2
import Derived.Test.YtpicjcophjekpaaCdC
namespace Go.Proofs.Ytpicjcophjekpaa.Cl
open Go.RowKit Go.Sort St Ad Po
open Go.Proofs.Ytpicjcophjekpaa.Id (quiet_at boxed1)
set_option linter.unusedVariables false

/-- a call -/
structure Cl where
  (n i s to pr att st se re : Int) (co : Bool) (cd va tr : Int)
def Cl.arr (c : Cl) : Array Value :=
  #[.int .i64 c.n, .int .i64 c.i, .int .i64 c.s, .int .i64 c.to, .int .i64 c.pr, .int .i64 c.att, .int .i64 c.st, .int .i64 c.se, .int .i64 c.re, .bool c.co, .int .i64 c.cd, .int .i64 c.va, .int .i64 c.tr]
def zero : Cl := ⟨0, 0, 0, 0, 0, 0, 0, 0, 0, false, 0, 0, 0⟩
/-- its numbers are small enough to be counted up -/
def Cl.Fit (c : Cl) : Prop := Wd c.att ∧ 0 ≤ c.tr ∧ c.tr ≤ 2000000
section
variable (c : Cl) (n : Int)
def begin : Cl := if (c.st = 0 ∨ c.st = 2) ∧ c.att < 5 then { c with att := c.att + 1, tr := c.tr + 1, st := 1, se := Tk.clamp n, re := 0 } else c
def ends : Cl := if c.st = 3 then c else { c with st := 3, cd := Cd.clean n, va := 0, re := 0 }
def good : Cl := if c.st = 1 then { c with st := 3, cd := 0, va := max 0 (min n 2147483647), re := 0 } else c
def taken : Cl := if c.st = 1 then { c with co := true } else c
/-- what the policy is asked of it -/
def asks (f : Ft) : Ft := { f with att := c.att, com := c.co }
def bad (g : Cf) (f : Ft) : Cl × Int :=
  if c.st = 1 then if (dec g (asks c f)).1 = 0 then ({ c with st := 2, re := (dec g (asks c f)).2 }, 0) else (ends c f.code, (dec g (asks c f)).1) else (c, 1)
end

theorem info_cl : (Try.prog.info? 31).map (·.size) = some 13 := by kernel_rfl
theorem info_rcl : (Try.prog.info? 25).map (·.size) = some 13 := by kernel_rfl

theorem ends_over {c : Cl} (n : Int) (h : c.st = 3) : ends c n = c := by unfold ends; rw [if_pos h]
theorem ends_on {c : Cl} (n : Int) (h : ¬ c.st = 3) : ends c n = { c with st := 3, cd := Cd.clean n, va := 0, re := 0 } := by unfold ends; rw [if_neg h]

theorem row2 (w : World) (t : TypeId) (xs ys : Array Value) : ((w.alloc (.cells xs t)).alloc (.cells ys t)).heap[w.heap.size + 1]? = some (.cells ys t (0, 0)) := by
  have := blk_new (w.alloc (.cells xs t)) (.cells ys t)
  rwa [show (w.alloc (.cells xs t)).heap.size = w.heap.size + 1 by simp] at this
theorem row1 (w : World) (t : TypeId) (xs ys : Array Value) : ((w.alloc (.cells xs t)).alloc (.cells ys t)).heap[w.heap.size]? = some (.cells xs t (0, 0)) :=
  kept_blk (Kept.one _ _) (blk_new w _)
theorem kept2 (w : World) (o p : Obj) : Kept w ((w.alloc o).alloc p) := (Kept.one w o).more p

theorem begin_on {c : Cl} (n : Int) (h : c.st = 0 ∨ c.st = 2) (h2 : c.att < 5) : begin c n = { c with att := c.att + 1, tr := c.tr + 1, st := 1, se := Tk.clamp n, re := 0 } := by unfold begin; rw [if_pos ⟨h, h2⟩]
theorem begin_no {c : Cl} (n : Int) (h : ¬ ((c.st = 0 ∨ c.st = 2) ∧ c.att < 5)) : begin c n = c := by unfold begin; rw [if_neg h]
theorem good_on {c : Cl} (n : Int) (h : c.st = 1) : good c n = { c with st := 3, cd := 0, va := max 0 (min n 2147483647), re := 0 } := by unfold good; rw [if_pos h]
theorem good_no {c : Cl} (n : Int) (h : ¬ c.st = 1) : good c n = c := by unfold good; rw [if_neg h]
theorem taken_on {c : Cl} (h : c.st = 1) : taken c = { c with co := true } := by unfold taken; rw [if_pos h]
theorem taken_no {c : Cl} (h : ¬ c.st = 1) : taken c = c := by unfold taken; rw [if_neg h]

set_option maxRecDepth 100000 in
set_option maxHeartbeats 1000000 in
theorem ends_any (c : Cl) (n : Int) (w : World) : Calls Try.prog 23 #[.agg c.arr, .int .i64 n] w fun e w' => e = .returned (.agg (ends c n).arr) ∧ Kept w w' := by
  by_cases h : c.st = 3
  · rw [ends_over n h]
    obtain ⟨x0, x1, x2, x3, x4, x5, x6, x7, x8, x9, x10, x11, x12⟩ := c
    simp only [Cl.arr] at h ⊢
    subst h
    go_enter Try.func23, Try.ntmps23
    go_wp2
    refine bodyPost_ret (results_cell_row rfl _ _ (w.heap.size + 1) 31 _ (0, 0) _ rfl (row2 _ _ _ _) Try.underlying31 rfl info_cl) rfl ⟨rfl, kept2 _ _ _⟩
  · rw [ends_on n h]
    obtain ⟨x0, x1, x2, x3, x4, x5, x6, x7, x8, x9, x10, x11, x12⟩ := c
    simp only [Cl.arr] at h ⊢
    obtain ⟨z, hz⟩ : ∃ z, Cd.clean n = z := ⟨_, rfl⟩
    rw [hz]
    have C1 := Lib.hid (show ∀ u, Calls Try.prog 34 #[.int .i64 n] u fun e w' => e = .returned (.int .i64 z) ∧ u = w' from fun u => by rw [← hz]; exact Cd.clean_any _ u)
    clear hz
    go_enter Try.func23, Try.ntmps23
    go_wp2_with (go_at_call 34; refine (C1.out _).mono ?_; rintro e w' ⟨rfl, rfl⟩)
    refine bodyPost_ret (results_cell_row rfl _ _ (w.heap.size + 1) 31 _ (0, 0) _ rfl (row2 _ _ _ _) Try.underlying31 rfl info_cl) rfl ⟨rfl, kept2 _ _ _⟩

set_option maxRecDepth 100000 in
set_option maxHeartbeats 1000000 in
theorem taken_any (c : Cl) (w : World) : Calls Try.prog 22 #[.agg c.arr] w fun e w' => e = .returned (.agg (taken c).arr) ∧ Kept w w' := by
  by_cases h : c.st = 1
  · rw [taken_on h]
    obtain ⟨x0, x1, x2, x3, x4, x5, x6, x7, x8, x9, x10, x11, x12⟩ := c
    simp only [Cl.arr] at h ⊢
    subst h
    go_enter Try.func22, Try.ntmps22
    go_wp2
    refine bodyPost_ret (results_cell_row rfl _ _ (w.heap.size + 1) 31 _ (0, 0) _ rfl (row2 _ _ _ _) Try.underlying31 rfl info_cl) rfl ⟨rfl, kept2 _ _ _⟩
  · rw [taken_no h]
    obtain ⟨x0, x1, x2, x3, x4, x5, x6, x7, x8, x9, x10, x11, x12⟩ := c
    simp only [Cl.arr] at h ⊢
    go_enter Try.func22, Try.ntmps22
    go_wp2
    refine bodyPost_ret (results_cell_row rfl _ _ (w.heap.size + 1) 31 _ (0, 0) _ rfl (row2 _ _ _ _) Try.underlying31 rfl info_cl) rfl ⟨rfl, kept2 _ _ _⟩

set_option maxRecDepth 100000 in
set_option maxHeartbeats 1000000 in
theorem begin_any (c : Cl) (hc : c.Fit) (n : Int) (w : World) : Calls Try.prog 16 #[.agg c.arr, .int .i64 n] w fun e w' => e = .returned (.agg (begin c n).arr) ∧ Kept w w' := by
  obtain ⟨⟨a1, a2⟩, a3, a4⟩ := hc
  by_cases h : (c.st = 0 ∨ c.st = 2) ∧ c.att < 5
  · rw [begin_on n h.1 h.2]
    obtain ⟨x0, x1, x2, x3, x4, x5, x6, x7, x8, x9, x10, x11, x12⟩ := c
    simp only [Cl.arr] at h a1 a2 a3 a4 ⊢
    obtain ⟨z, hz⟩ : ∃ z, Tk.clamp n = z := ⟨_, rfl⟩
    rw [hz]
    have C1 := Lib.hid (show ∀ u, Calls Try.prog 32 #[.int .i64 n] u fun e w' => e = .returned (.int .i64 z) ∧ u = w' from fun u => by rw [← hz]; exact Tk.clamp_any _ u)
    clear hz
    obtain ⟨h1, h2⟩ := h
    rcases h1 with h1 | h1
    all_goals
      subst h1
      go_enter Try.func16, Try.ntmps16
      go_wp2_with (go_at_call 32; refine (C1.out _).mono ?_; rintro e w' ⟨rfl, rfl⟩)
      refine bodyPost_ret (results_cell_row rfl _ _ (w.heap.size + 1) 31 _ (0, 0) _ rfl (row2 _ _ _ _) Try.underlying31 rfl info_cl) rfl ⟨rfl, kept2 _ _ _⟩
  · rw [begin_no n h]
    obtain ⟨x0, x1, x2, x3, x4, x5, x6, x7, x8, x9, x10, x11, x12⟩ := c
    simp only [Cl.arr] at h a1 a2 a3 a4 ⊢
    by_cases h1 : x6 = 0
    · have h2 : 5 ≤ x5 := by omega
      subst h1
      clear h
      go_enter Try.func16, Try.ntmps16
      go_wp2
      refine bodyPost_ret (results_cell_row rfl _ _ (w.heap.size + 1) 31 _ (0, 0) _ rfl (row2 _ _ _ _) Try.underlying31 rfl info_cl) rfl ⟨rfl, kept2 _ _ _⟩
    by_cases h3 : x6 = 2
    · have h2 : 5 ≤ x5 := by omega
      subst h3
      clear h
      go_enter Try.func16, Try.ntmps16
      go_wp2
      refine bodyPost_ret (results_cell_row rfl _ _ (w.heap.size + 1) 31 _ (0, 0) _ rfl (row2 _ _ _ _) Try.underlying31 rfl info_cl) rfl ⟨rfl, kept2 _ _ _⟩
    clear h
    go_enter Try.func16, Try.ntmps16
    go_wp2
    refine bodyPost_ret (results_cell_row rfl _ _ (w.heap.size + 1) 31 _ (0, 0) _ rfl (row2 _ _ _ _) Try.underlying31 rfl info_cl) rfl ⟨rfl, kept2 _ _ _⟩

set_option maxRecDepth 100000 in
set_option maxHeartbeats 1000000 in
theorem rends_any (c : Cl) (n : Int) (w : World) : Calls Try.prog 28 #[.agg c.arr, .int .i64 n] w fun e w' => e = .returned (.agg (ends c n).arr) ∧ Kept w w' := by
  by_cases h : c.st = 3
  · rw [ends_over n h]
    obtain ⟨x0, x1, x2, x3, x4, x5, x6, x7, x8, x9, x10, x11, x12⟩ := c
    simp only [Cl.arr] at h ⊢
    subst h
    go_enter Try.func28, Try.ntmps28
    go_wp2
    refine bodyPost_ret (results_cell_row rfl _ _ (w.heap.size + 1) 25 _ (0, 0) _ rfl (row2 _ _ _ _) Try.underlying25 rfl info_rcl) rfl ⟨rfl, kept2 _ _ _⟩
  · rw [ends_on n h]
    obtain ⟨x0, x1, x2, x3, x4, x5, x6, x7, x8, x9, x10, x11, x12⟩ := c
    simp only [Cl.arr] at h ⊢
    obtain ⟨z, hz⟩ : ∃ z, Cd.clean n = z := ⟨_, rfl⟩
    rw [hz]
    have C1 := Lib.hid (show ∀ u, Calls Try.prog 36 #[.int .i64 n] u fun e w' => e = .returned (.int .i64 z) ∧ u = w' from fun u => by rw [← hz]; exact Cd.rclean_any _ u)
    clear hz
    go_enter Try.func28, Try.ntmps28
    go_wp2_with (go_at_call 36; refine (C1.out _).mono ?_; rintro e w' ⟨rfl, rfl⟩)
    refine bodyPost_ret (results_cell_row rfl _ _ (w.heap.size + 1) 25 _ (0, 0) _ rfl (row2 _ _ _ _) Try.underlying25 rfl info_rcl) rfl ⟨rfl, kept2 _ _ _⟩

set_option maxRecDepth 100000 in
set_option maxHeartbeats 1000000 in
theorem rtaken_any (c : Cl) (w : World) : Calls Try.prog 26 #[.agg c.arr] w fun e w' => e = .returned (.agg (taken c).arr) ∧ Kept w w' := by
  by_cases h : c.st = 1
  · rw [taken_on h]
    obtain ⟨x0, x1, x2, x3, x4, x5, x6, x7, x8, x9, x10, x11, x12⟩ := c
    simp only [Cl.arr] at h ⊢
    subst h
    go_enter Try.func26, Try.ntmps26
    go_wp2
    refine bodyPost_ret (results_cell_row rfl _ _ (w.heap.size + 1) 25 _ (0, 0) _ rfl (row2 _ _ _ _) Try.underlying25 rfl info_rcl) rfl ⟨rfl, kept2 _ _ _⟩
  · rw [taken_no h]
    obtain ⟨x0, x1, x2, x3, x4, x5, x6, x7, x8, x9, x10, x11, x12⟩ := c
    simp only [Cl.arr] at h ⊢
    go_enter Try.func26, Try.ntmps26
    go_wp2
    refine bodyPost_ret (results_cell_row rfl _ _ (w.heap.size + 1) 25 _ (0, 0) _ rfl (row2 _ _ _ _) Try.underlying25 rfl info_rcl) rfl ⟨rfl, kept2 _ _ _⟩

set_option maxRecDepth 100000 in
set_option maxHeartbeats 1000000 in
theorem rbegin_any (c : Cl) (hc : c.Fit) (n : Int) (w : World) : Calls Try.prog 24 #[.agg c.arr, .int .i64 n] w fun e w' => e = .returned (.agg (begin c n).arr) ∧ Kept w w' := by
  obtain ⟨⟨a1, a2⟩, a3, a4⟩ := hc
  by_cases h : (c.st = 0 ∨ c.st = 2) ∧ c.att < 5
  · rw [begin_on n h.1 h.2]
    obtain ⟨x0, x1, x2, x3, x4, x5, x6, x7, x8, x9, x10, x11, x12⟩ := c
    simp only [Cl.arr] at h a1 a2 a3 a4 ⊢
    obtain ⟨z, hz⟩ : ∃ z, Tk.clamp n = z := ⟨_, rfl⟩
    rw [hz]
    have C1 := Lib.hid (show ∀ u, Calls Try.prog 17 #[.int .i64 n] u fun e w' => e = .returned (.int .i64 z) ∧ u = w' from fun u => by rw [← hz]; exact Tk.rclamp_any _ u)
    clear hz
    obtain ⟨h1, h2⟩ := h
    rcases h1 with h1 | h1
    all_goals
      subst h1
      go_enter Try.func24, Try.ntmps24
      go_wp2_with (go_at_call 17; refine (C1.out _).mono ?_; rintro e w' ⟨rfl, rfl⟩)
      refine bodyPost_ret (results_cell_row rfl _ _ (w.heap.size + 1) 25 _ (0, 0) _ rfl (row2 _ _ _ _) Try.underlying25 rfl info_rcl) rfl ⟨rfl, kept2 _ _ _⟩
  · rw [begin_no n h]
    obtain ⟨x0, x1, x2, x3, x4, x5, x6, x7, x8, x9, x10, x11, x12⟩ := c
    simp only [Cl.arr] at h a1 a2 a3 a4 ⊢
    by_cases h1 : x6 = 0
    · have h2 : 5 ≤ x5 := by omega
      subst h1
      clear h
      go_enter Try.func24, Try.ntmps24
      go_wp2
      refine bodyPost_ret (results_cell_row rfl _ _ (w.heap.size + 1) 25 _ (0, 0) _ rfl (row2 _ _ _ _) Try.underlying25 rfl info_rcl) rfl ⟨rfl, kept2 _ _ _⟩
    by_cases h3 : x6 = 2
    · have h2 : 5 ≤ x5 := by omega
      subst h3
      clear h
      go_enter Try.func24, Try.ntmps24
      go_wp2
      refine bodyPost_ret (results_cell_row rfl _ _ (w.heap.size + 1) 25 _ (0, 0) _ rfl (row2 _ _ _ _) Try.underlying25 rfl info_rcl) rfl ⟨rfl, kept2 _ _ _⟩
    clear h
    go_enter Try.func24, Try.ntmps24
    go_wp2
    refine bodyPost_ret (results_cell_row rfl _ _ (w.heap.size + 1) 25 _ (0, 0) _ rfl (row2 _ _ _ _) Try.underlying25 rfl info_rcl) rfl ⟨rfl, kept2 _ _ _⟩

end Go.Proofs.Ytpicjcophjekpaa.Cl
