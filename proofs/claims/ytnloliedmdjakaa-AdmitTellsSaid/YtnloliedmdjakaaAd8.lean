/- The law of layer 17: whether a configuration may be, and what is done with a call, is as the document says. -/
import Derived.Test.YtnloliedmdjakaaAd7
namespace Go.Proofs.Ytnloliedmdjakaa.Ad
open Go.RowKit Go.Sort St PkM IdM
open Go.Proofs.Ytnloliedmdjakaa.Id (quiet_at)
set_option linter.unusedVariables false

/-- a row read whole, where it is wanted -/
theorem load_w {ops : Array Oper} {rest : List Oper} {o : Oper} {a : Act} {w : World} {Q : Exit → Act → World → Prop} (ty : TypeId) (x : Operand) (ho : o.op = .load ty x) (g : Nat) (hx : a.eval x = .pointer (some ⟨g, 0, none⟩)) (hw : Region.wanted o (yielded ops a.tmps) = true) (cs : Array Value) {fs} (n : Nat)
    (hg : w.heap[g]? = some (.cells cs ty (0, 0))) (hu : Try.prog.underlying ty = some (.struct fs)) (hn : cs.size = n) (hi : (Try.prog.info? ty).map (·.size) = some n) (h : wpList Try.prog ops Q rest (a.put o.dst (.agg cs)) w) : wpList Try.prog ops Q (o :: rest) a w :=
  wpList_step fun K hK => by subst hn; rw [if_pos hw]; exact wp_load_row ty x ho g hx ty cs (0, 0) _ hg hu rfl hi (hK _ _ h)

set_option maxRecDepth 100000 in
set_option maxHeartbeats 4000000 in
theorem tells_any (c : Cf) (p : Pk) (r : Ro) (w : World) : Calls Try.prog 3 #[.agg c.arr, .agg p.arr, .agg r.arr] w fun e w' => e = .returned (.bool true) ∧ Kept w w' := by
  obtain ⟨W, hW, hI⟩ := In.new w c p r
  have HW := Lib.hid hW
  have HK := Lib.hid hI.kept
  have HI := Lib.hid hI
  have x9 : W.cell? ⟨w.heap.size + 1, 9, none⟩ = some (.string p.tm) := hI.atp 9
  obtain ⟨a, ha⟩ : ∃ a, (chk c p r).1 = a := ⟨_, rfl⟩
  obtain ⟨b, hb⟩ : ∃ b, (chk c p r).2 = b := ⟨_, rfl⟩
  obtain ⟨z, hz⟩ : ∃ z, right c = z := ⟨_, rfl⟩
  obtain ⟨d, hd⟩ : ∃ d, dlP p = d := ⟨_, rfl⟩
  have C1 := Lib.hid (show ∀ u, Calls Try.prog 7 #[.agg c.arr, .agg p.arr, .agg r.arr] u fun e w' => e = .returned (.tuple #[.int .i64 a, .int .i64 b]) ∧ Kept u w' from fun u => by rw [← ha, ← hb]; exact check_any c p r u)
  have C2 := Lib.hid (show ∀ u, Calls Try.prog 8 #[.agg c.arr, .agg p.arr, .int .i64 r.now, .int .i64 r.running, .int .i64 r.programs, .bool r.seen] u fun e w' => e = .returned (.tuple #[.int .i64 a, .int .i64 b]) ∧ Kept u w' from fun u => by rw [← ha, ← hb]; exact rcheck_any c p r u)
  have q1 : ∀ u, Calls Try.prog 9 #[.agg c.arr] u fun e w' => e = .returned (.bool z) ∧ Kept u w' := fun u => by rw [← hz]; exact right_any c u
  have q2 : ∀ u, Calls Try.prog 10 #[.agg c.arr] u fun e w' => e = .returned (.bool z) ∧ Kept u w' := fun u => by rw [← hz]; exact rright_any c u
  have q3 : ∀ u, Calls Try.prog 11 #[.agg p.arr] u fun e w' => e = .returned (.int .i64 d) ∧ Kept u w' := fun u => by rw [← hd]; exact deadline_p p u
  have q4 : ∀ u, Calls Try.prog 12 #[.agg p.arr] u fun e w' => e = .returned (.int .i64 d) ∧ Kept u w' := fun u => by rw [← hd]; exact rdeadline_p p u
  clear hW ha hb hz hd
  by_cases h : 60 < p.tm.size
  · have h' := h
    go_enter Try.func3, Try.ntmps3
    go_upto_region 1 with fail
    rw [HW.out]
    go_wp2_with (go_at_call 6; refine (awake_any _).mono ?_; rintro e u ⟨rfl, hk⟩)
    go_ret
    exact ⟨rfl, HK.out.trans hk⟩
  · have h' := h
    go_enter Try.func3, Try.ntmps3
    go_upto_region 1 with fail
    rw [HW.out]
    go_upto_region 4 with (first
      | (go_at_call 7; refine (C1.out _).mono ?_; rintro e u1 ⟨rfl, hk1⟩)
      | (refine load_w 24 (.tmp 3) rfl w.heap.size rfl rfl c.arr 14 hI.bc Try.underlying24 rfl info_cf ?_)
      | (refine load_w 30 (.tmp 4) rfl (w.heap.size + 1) rfl rfl p.arr 23 hI.bp Try.underlying30 rfl info_pk ?_)
      | (refine load_w 32 (.tmp 5) rfl (w.heap.size + 2) rfl rfl r.arr 4 hI.br Try.underlying32 rfl info_ro ?_))
    have hJ := HI.out.go hk1
    have r0 : u1.cell? ⟨w.heap.size + 2, 0, none⟩ = some (.int .i64 r.now) := hJ.atr 0
    have r1 : u1.cell? ⟨w.heap.size + 2, 1, none⟩ = some (.int .i64 r.running) := hJ.atr 1
    have r2 : u1.cell? ⟨w.heap.size + 2, 2, none⟩ = some (.int .i64 r.programs) := hJ.atr 2
    have r3 : u1.cell? ⟨w.heap.size + 2, 3, none⟩ = some (.bool r.seen) := hJ.atr 3
    clear hk1 hI x9
    go_upto_region 5 with (first
      | (go_at_call 8; refine (C2.out _).mono ?_; rintro e u2 ⟨rfl, hk2⟩)
      | (refine load_w 24 (.tmp 3) rfl w.heap.size rfl rfl c.arr 14 hJ.bc Try.underlying24 rfl info_cf ?_)
      | (refine load_w 30 (.tmp 4) rfl (w.heap.size + 1) rfl rfl p.arr 23 hJ.bp Try.underlying30 rfl info_pk ?_))
    have hL := hJ.go hk2
    clear hk2 hJ r0 r1 r2 r3
    have lc := loadc_regrown hL.bc
    have lp := loadp_regrown hL.bp
    have Q1 := quiet_at (Kept.refl u2) (fun x hx => q1 x)
    have Q2 := quiet_at (Kept.refl u2) (fun x hx => q2 x)
    have Q3 := quiet_at (Kept.refl u2) (fun x hx => q3 x)
    have Q4 := quiet_at (Kept.refl u2) (fun x hx => q4 x)
    have Q5 := quiet_at (Kept.refl u2) (fun x hx => awake_any x)
    clear q1 q2 q3 q4
    refine wp_region_quiet_below (by kernel_rfl) (by kernel_rfl) ?_
    repeat (first
      | (go_big_quiet_want; refine quiet_row 24 (.tmp 3) rfl w.heap.size rfl c.arr lc.out ?_; simp only [Act.put, List.setIfInBounds_toArray, List.set_cons_succ, List.set_cons_zero]; go_big_quiet_on)
      | (go_big_quiet_want; refine quiet_row 30 (.tmp 4) rfl (w.heap.size + 1) rfl p.arr lp.out ?_; simp only [Act.put, List.setIfInBounds_toArray, List.set_cons_succ, List.set_cons_zero]; go_big_quiet_on)
      | go_big_quiet_step (first | (with_reducible exact Q1.out _) | (with_reducible exact Q2.out _) | (with_reducible exact Q3.out _) | (with_reducible exact Q4.out _) | (with_reducible exact Q5.out _)))
    refine wpQuiet_nil ?_
    intro _ hw'
    obtain ⟨⟨dq, osq⟩, hw''⟩ := hw'
    subst hw''
    have hM := (hL.go (below_regrown u2 dq osq)).kept
    go_wp2_with fail
    go_ret
    exact ⟨rfl, hM⟩

end Go.Proofs.Ytnloliedmdjakaa.Ad
