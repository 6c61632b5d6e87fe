/- The chapter's example of layer 20, and the law that what is decided is the document's. -/
import Derived.Test.YtlngcaonhpiciaaPo2
namespace Go.Proofs.Ytlngcaonhpiciaa.Po
open Go.RowKit Go.Sort St Ad
open Go.Proofs.Ytlngcaonhpiciaa.Id (quiet_at boxed1)
set_option linter.unusedVariables false

def exC : Cf := ⟨0, 0, 0, 0, 0, 0, 0, 0, 3, 1, 1, 0, 10, none, 0, 0⟩
def exF (com : Bool) : Ft := ⟨14, 1, com, 5, 10000, 10, 100, 0⟩
theorem ex_1 : dec exC (exF false) = (0, 15) := by decide +kernel
theorem ex_2 : dec exC (exF true) = (2, 0) := by decide +kernel

/-- a field of the facts is stored -/
theorem In.turn {w W : World} {t : TypeId} {c : Cf} (h : In w W t c (exF false)) : In w (W.setCell ⟨w.heap.size + 1, 2, none⟩ (.bool true)) t c (exF true) := by
  refine ⟨Below.setCell h.kept (by show w.heap.size ≤ w.heap.size + 1; omega) _, ?_, ?_⟩
  · rw [Below.heap_setCell _ _ _ _ (by show w.heap.size ≠ w.heap.size + 1; omega)]; exact h.bc
  · exact blk_set h.bf 2 _

set_option maxRecDepth 100000 in
set_option maxHeartbeats 2000000 in
theorem awake_any (w : World) : Calls Try.prog 14 #[] w fun e w' => e = .returned (.bool true) ∧ Kept w w' := by
  have c1 := dec_any exC (exF false) (by decide)
  have c2 := dec_any exC (exF true) (by decide)
  rw [ex_1] at c1
  rw [ex_2] at c2
  have C1 := Lib.hid c1
  have C2 := Lib.hid c2
  clear c1 c2
  obtain ⟨W, hW, hI⟩ := In.new w 29 exC (exF false)
  have HI := Lib.hid hI
  simp only [Cf.arr, Ft.arr, exC, exF] at hW
  have HW := Lib.hid hW
  clear hW
  go_enter Try.func14, Try.ntmps14
  go_upto_region 3 with fail
  rw [HW.out]
  go_upto_region 4 with (first
    | (go_at_call 7; refine (C1.out _).mono ?_; rintro e u1 ⟨rfl, hk1⟩)
    | (refine load_w 24 (.tmp 1) rfl w.heap.size rfl rfl exC.arr 14 hI.bc Try.underlying24 rfl info_cf ?_)
    | (refine load_w 29 (.tmp 2) rfl (w.heap.size + 1) rfl rfl (exF false).arr 8 hI.bf Try.underlying29 rfl info_ft ?_))
  have hJ := HI.out.go hk1
  have x2 : u1.cell? ⟨w.heap.size + 1, 2, none⟩ = some (.bool false) := hJ.atf 2
  have f2 : u1.frozen? ⟨w.heap.size + 1, 2, none⟩ = false := blk_free hJ.bf 2
  have hL := hJ.turn
  clear hk1 hI hJ
  go_upto_region 5 with fail
  clear x2 f2
  go_upto_region 6 with (first
    | (go_at_call 7; refine (C2.out _).mono ?_; rintro e u2 ⟨rfl, hk2⟩)
    | (refine load_w 24 (.tmp 1) rfl w.heap.size rfl rfl exC.arr 14 hL.bc Try.underlying24 rfl info_cf ?_)
    | (refine load_w 29 (.tmp 2) rfl (w.heap.size + 1) rfl rfl (exF true).arr 8 hL.bf Try.underlying29 rfl info_ft ?_))
  have HK := Lib.hid (hL.go hk2).kept
  clear hk2 hL
  go_wp2_with fail
  go_ret
  exact ⟨rfl, HK.out⟩

set_option maxRecDepth 100000 in
set_option maxHeartbeats 4000000 in
theorem decides_any (c : Cf) (f : Ft) (hf : f.att ≤ 9223372036854775807) (w : World) : Calls Try.prog 3 #[.agg c.arr, .agg f.arr] w fun e w' => e = .returned (.bool true) ∧ Kept w w' := by
  obtain ⟨W, hW, hI⟩ := In.new w 26 c f
  have HW := Lib.hid hW
  have HI := Lib.hid hI
  obtain ⟨a, ha⟩ : ∃ a, (dec c f).1 = a := ⟨_, rfl⟩
  obtain ⟨b, hb⟩ : ∃ b, (dec c f).2 = b := ⟨_, rfl⟩
  obtain ⟨z, hz⟩ : ∃ z, ready c f = z := ⟨_, rfl⟩
  obtain ⟨m, hm⟩ : ∃ m, most c = m := ⟨_, rfl⟩
  have q0 : ∀ u, Calls Try.prog 8 #[.agg f.arr] u fun e w' => e = .returned (.agg f.arr) ∧ Kept u w' := fun u => mine_any f u
  have q1 : ∀ u, Calls Try.prog 7 #[.agg c.arr, .agg f.arr] u fun e w' => e = .returned (.tuple #[.int .i64 a, .int .i64 b]) ∧ Kept u w' := fun u => by rw [← ha, ← hb]; exact dec_any c f hf u
  have C2 := Lib.hid (show ∀ u, Calls Try.prog 9 #[.agg c.arr, .agg f.arr] u fun e w' => e = .returned (.tuple #[.int .i64 a, .int .i64 b]) ∧ Kept u w' from fun u => by rw [← ha, ← hb]; exact rdec_any c f u)
  have q3 : ∀ u, Calls Try.prog 10 #[.agg c.arr, .agg f.arr] u fun e w' => e = .returned (.int .i64 z) ∧ Kept u w' := fun u => by rw [← hz]; exact ready_any c f hf u
  have q4 : ∀ u, Calls Try.prog 11 #[.agg c.arr, .agg f.arr] u fun e w' => e = .returned (.int .i64 z) ∧ Kept u w' := fun u => by rw [← hz]; exact rready_any c f u
  have q5 : ∀ u, Calls Try.prog 12 #[.agg c.arr] u fun e w' => e = .returned (.int .i64 m) ∧ Kept u w' := fun u => by rw [← hm]; exact most_any c u
  have q6 : ∀ u, Calls Try.prog 13 #[.agg c.arr] u fun e w' => e = .returned (.int .i64 m) ∧ Kept u w' := fun u => by rw [← hm]; exact rmost_any c u
  have lc := loadc_regrown hI.bc
  have lf := loadf_regrown hI.bf
  have Q0 := quiet_at (Kept.refl W) (fun x hx => q0 x)
  have Q1 := quiet_at (Kept.refl W) (fun x hx => q1 x)
  clear hW ha hb hz hm hI
  go_enter Try.func3, Try.ntmps3
  go_upto_region 1 with fail
  rw [HW.out]
  refine wp_region_quiet_below (by kernel_rfl) (by kernel_rfl) ?_
  repeat (first
    | (go_big_quiet_want; refine quiet_row 24 (.tmp 2) rfl w.heap.size rfl c.arr lc.out ?_; simp only [Act.put, List.setIfInBounds_toArray, List.set_cons_succ, List.set_cons_zero]; go_big_quiet_on)
    | (go_big_quiet_want; refine quiet_row 26 (.tmp 3) rfl (w.heap.size + 1) rfl f.arr lf.out ?_; simp only [Act.put, List.setIfInBounds_toArray, List.set_cons_succ, List.set_cons_zero]; go_big_quiet_on)
    | go_big_quiet_step (first | (with_reducible exact Q0.out _) | (with_reducible exact Q1.out _)))
  refine wpQuiet_nil ?_
  intro _ hw'
  obtain ⟨⟨dq, osq⟩, hw''⟩ := hw'
  subst hw''
  have hJ := HI.out.go (below_regrown W dq osq)
  obtain ⟨V, hV⟩ : ∃ V, grow (redrawn W dq) osq = V := ⟨_, rfl⟩
  rw [hV] at hJ ⊢
  clear hV lc lf Q0 Q1
  go_upto_region 3 with (first
    | (go_at_call 9; refine (C2.out _).mono ?_; rintro e u2 ⟨rfl, hk2⟩)
    | (refine load_w 24 (.tmp 2) rfl w.heap.size rfl rfl c.arr 14 hJ.bc Try.underlying24 rfl info_cf ?_)
    | (refine load_w 26 (.tmp 3) rfl (w.heap.size + 1) rfl rfl f.arr 8 hJ.bf Try.underlying26 rfl info_rft ?_))
  have hL := hJ.go hk2
  have HL := Lib.hid hL
  have lc := loadc_regrown hL.bc
  have lf := loadf_regrown hL.bf
  have Q0 := quiet_at (Kept.refl u2) (fun x hx => q0 x)
  have Q3 := quiet_at (Kept.refl u2) (fun x hx => q3 x)
  have Q4 := quiet_at (Kept.refl u2) (fun x hx => q4 x)
  have Q5 := quiet_at (Kept.refl u2) (fun x hx => q5 x)
  have Q6 := quiet_at (Kept.refl u2) (fun x hx => q6 x)
  have Q7 := quiet_at (Kept.refl u2) (fun x hx => awake_any x)
  clear q0 q1 q3 q4 q5 q6 hJ hk2 hL
  refine wp_region_quiet_below (by kernel_rfl) (by kernel_rfl) ?_
  repeat (first
    | (go_big_quiet_want; refine quiet_row 24 (.tmp 2) rfl w.heap.size rfl c.arr lc.out ?_; simp only [Act.put, List.setIfInBounds_toArray, List.set_cons_succ, List.set_cons_zero]; go_big_quiet_on)
    | (go_big_quiet_want; refine quiet_row 26 (.tmp 3) rfl (w.heap.size + 1) rfl f.arr lf.out ?_; simp only [Act.put, List.setIfInBounds_toArray, List.set_cons_succ, List.set_cons_zero]; go_big_quiet_on)
    | go_big_quiet_step (first | (with_reducible exact Q0.out _) | (with_reducible exact Q3.out _) | (with_reducible exact Q4.out _) | (with_reducible exact Q5.out _) | (with_reducible exact Q6.out _) | (with_reducible exact Q7.out _)))
  refine wpQuiet_nil ?_
  intro _ hw'
  obtain ⟨⟨dq, osq⟩, hw''⟩ := hw'
  subst hw''
  have hM := (HL.out.go (below_regrown u2 dq osq)).kept
  go_wp2_with fail
  go_ret
  exact ⟨rfl, hM⟩

end Go.Proofs.Ytlngcaonhpiciaa.Po
