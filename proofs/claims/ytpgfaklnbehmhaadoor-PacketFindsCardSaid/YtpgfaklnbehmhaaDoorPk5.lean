/- Package packet: which packets may be; and the document's. -/
import Derived.Test.YtpgfaklnbehmhaaDoorPk4
namespace Go.Proofs.YtpgfaklnbehmhaaDoor.Pk
open Go.RowKit Go.Sort St BsM IdM PkM
open Go.Proofs.YtpgfaklnbehmhaaDoor.Id
open Go.Proofs.YtpgfaklnbehmhaaDoor.Bs (kept_blk)
set_option linter.unusedVariables false

theorem grow_blk {W : World} {b : Nat} {o : Obj} (h : W.heap[b]? = some o) (d : Nat) (os : Array Obj) : (grow (redrawn W d) os).heap[b]? = some o :=
  kept_blk (below_regrown W d os) h
/-- a row read whole, in a region whose calls make memory -/
theorem quiet_row {a : Act} {o : Oper} {C : World → Prop} {K : Act → Prop} (ty : TypeId) (x : Operand) (ho : o.op = .load ty x) (g : Nat) (hx : a.eval x = .pointer (some ⟨g, 0, none⟩)) (cs : Array Value)
    (hl : ∀ w, C w → (loadVar ty ⟨g, 0, none⟩).run Tryd.prog w = .ok (.agg cs) w) (hk : K (a.put o.dst (.agg cs))) : o.quiet Tryd.prog a C K := by
  refine ⟨.agg cs, fun w hw => ?_, hk⟩
  unfold Oper.quietAt execOp
  simp only [ho, hx, Instr.loadAt, Instr.sureAddr, Sem.run_bind, Sem.run_pure, Result.andThen_ok, hl w hw]
  exact ⟨rfl, rfl⟩
theorem load_regrown {W : World} {b : Nat} {p : Pk} (hb : W.heap[b]? = some (.cells p.arr 27 (0, 0))) :
    Hid (∀ w, (∃ q : Regrown, w = grow (redrawn W q.d) q.os) → (loadVar 27 ⟨b, 0, none⟩).run Tryd.prog w = .ok (.agg p.arr) w) :=
  fun w ⟨q, hq⟩ => by subst hq; exact run_loadVar_row _ b _ _ p.arr (0, 0) _ (grow_blk hb q.d q.os) Tryd.underlying27 rfl info_pk

theorem first3 (a b : Bool) : a = false ∨ (a = true ∧ b = false) ∨ (a = true ∧ b = true) := by cases a <;> cases b <;> simp

set_option maxRecDepth 100000 in
set_option maxHeartbeats 2000000 in
theorem okp_as {p : Pk} {z : Bool} (hz : Hid (okB p = z)) {w : World} : Calls Tryd.prog 8 #[.agg p.arr] w fun e w' => e = .returned (.bool z) ∧ Kept w w' := by
  obtain ⟨W, hW, hA⟩ := boxp w p
  have HW := Lib.hid hW
  have hl := load_regrown hA.blk
  obtain ⟨z1, h1⟩ : ∃ z, sameB p (clean p) = z := ⟨_, rfl⟩
  obtain ⟨z2, h2⟩ : ∃ z, Hid (headB p = z) := ⟨_, rfl⟩
  obtain ⟨z3, h3⟩ : ∃ z, Hid (restB p = z) := ⟨_, rfl⟩
  have hb := Lib.hid (show z = (z1 && (z2 && z3)) by rw [← hz.out, ← h1, ← h2.out, ← h3.out]; rfl)
  have he := eql_run p (clean p)
  rw [h1] at he
  have Q1 := quiet_at hA.kept (fun x hx => clean_any p x)
  have Q2 := quiet_at hA.kept (fun x hx => head_as h2 (w := x))
  have Q3 := quiet_at hA.kept (fun x hx => rest_as h3 (w := x))
  have HA := Lib.hid hA
  clear hW hz h1 h2 h3 hA
  rcases first3 z1 z2 with rfl | ⟨rfl, rfl⟩ | ⟨rfl, rfl⟩
  case' inr.inr => cases z3
  all_goals
    go_enter Tryd.func8, Tryd.ntmps8
    go_wp2_with fail
    rw [HW.out]
    refine wp_region_quiet_below (by kernel_rfl) (by kernel_rfl) ?_
    repeat (first | (go_big_quiet_want; refine quiet_row 27 (.tmp 1) rfl w.heap.size rfl p.arr hl.out ?_; simp only [Act.put, List.setIfInBounds_toArray, List.set_cons_succ, List.set_cons_zero]; go_big_quiet_on) | go_big_quiet_step (first | (with_reducible exact Q1.out _) | (with_reducible exact Q2.out _) | (with_reducible exact Q3.out _)))
    refine wpQuiet_nil ?_
    intro _ hw'
    obtain ⟨⟨dq, osq⟩, hw''⟩ := hw'
    subst hw''
    go_wp2_with fail
    go_ret
    exact ⟨ret_bool hb.out.symm, HA.out.kept.trans (below_regrown _ dq osq)⟩

end Go.Proofs.YtpgfaklnbehmhaaDoor.Pk
