/- Whole rows: loaded where they are wanted, in quiet regions, stored into the newest block. No function of the program is spoken of here. -/
import Derived.Test.YtcoagmkncjonmaaGreatDoorBx
import Derived.Deep.WholeRow
import Derived.Deep.Cut
import Derived.Deep.RegionHeld3
import Derived.IntWalk
namespace Go.Proofs.YtcoagmkncjonmaaGreatDoor.Ad
open Go.RowKit Go.Sort St
set_option linter.unusedVariables false
set_option linter.unusedSimpArgs false

theorem kept_blk {c : Nat} {x y : World} {o : Obj} (h : Kept x y) (hc : x.heap[c]? = some o) : y.heap[c]? = some o := by rw [Below.block h c (blk_lt hc)]; exact hc

/-- a row read whole, in a region whose calls make memory -/
theorem quiet_row {a : Act} {o : Oper} {C : World → Prop} {K : Act → Prop} (ty : TypeId) (x : Operand) (ho : o.op = .load ty x) (g : Nat) (hx : a.eval x = .pointer (some ⟨g, 0, none⟩)) (cs : Array Value)
    (hl : ∀ w, C w → (loadVar ty ⟨g, 0, none⟩).run Tryz.prog w = .ok (.agg cs) w) (hk : K (a.put o.dst (.agg cs))) : o.quiet Tryz.prog a C K := by
  refine ⟨.agg cs, fun w hw => ?_, hk⟩
  unfold Oper.quietAt execOp
  simp only [ho, hx, Instr.loadAt, Instr.sureAddr, Sem.run_bind, Sem.run_pure, Result.andThen_ok, hl w hw]
  exact ⟨rfl, rfl⟩

/-- whatever is read, in such a region -/
theorem quiet_load {a : Act} {o : Oper} {C : World → Prop} {K : Act → Prop} (ty : TypeId) (x : Operand) (ho : o.op = .load ty x) (p : Addr) (hx : a.eval x = .pointer (some p)) (v : Value)
    (hl : ∀ w, C w → (loadVar ty p).run Tryz.prog w = .ok v w) (hk : K (a.put o.dst v)) : o.quiet Tryz.prog a C K := by
  refine ⟨v, fun w hw => ?_, hk⟩
  unfold Oper.quietAt execOp
  simp only [ho, hx, Instr.loadAt, Instr.sureAddr, Sem.run_bind, Sem.run_pure, Result.andThen_ok, hl w hw]
  exact ⟨rfl, rfl⟩
theorem run_loadb {w : World} {p : Addr} {n : Bool} (hc : w.cell? p = some (.bool n)) : (loadVar 4 p).run Tryz.prog w = .ok (.bool n) w := by go_simp
/-- a cell of whatever type of one cell reads -/
theorem loadv_regrown {W : World} {p : Addr} {v : Value} {t : TypeId} (hc : W.cell? p = some v) (hl : ∀ u : World, u.cell? p = some v → (loadVar t p).run Tryz.prog u = .ok v u) :
    Hid (∀ w, (∃ q : Regrown, w = grow (redrawn W q.d) q.os) → (loadVar t p).run Tryz.prog w = .ok v w) :=
  fun w ⟨q, hq⟩ => by subst hq; exact hl _ ((Below.cell (below_regrown W q.d q.os) (World.block_lt_of_cell? W p hc)).trans hc)
theorem loadk_regrown {W : World} {p : Addr} {v : Value} {t : TypeId} (hl : ∀ u : World, Kept W u → (loadVar t p).run Tryz.prog u = .ok v u) :
    Hid (∀ w, (∃ q : Regrown, w = grow (redrawn W q.d) q.os) → (loadVar t p).run Tryz.prog w = .ok v w) :=
  fun w ⟨q, hq⟩ => by subst hq; exact hl _ (below_regrown W q.d q.os)
theorem run_loadi {w : World} {p : Addr} {n : Int} (hc : w.cell? p = some (.int .i64 n)) : (loadVar 3 p).run Tryz.prog w = .ok (.int .i64 n) w := by go_simp
theorem loadi_regrown {W : World} {p : Addr} {n : Int} (hc : W.cell? p = some (.int .i64 n)) :
    Hid (∀ w, (∃ q : Regrown, w = grow (redrawn W q.d) q.os) → (loadVar 3 p).run Tryz.prog w = .ok (.int .i64 n) w) :=
  fun w ⟨q, hq⟩ => by subst hq; exact run_loadi ((Below.cell (below_regrown W q.d q.os) (World.block_lt_of_cell? W p hc)).trans hc)

/-- a row read whole, where it is wanted -/
theorem load_w {ops : Array Oper} {rest : List Oper} {o : Oper} {a : Act} {w : World} {Q : Exit → Act → World → Prop} (ty : TypeId) (x : Operand) (ho : o.op = .load ty x) (g : Nat) (hx : a.eval x = .pointer (some ⟨g, 0, none⟩)) (hw : Region.wanted o (yielded ops a.tmps) = true) (cs : Array Value) {fs} (n : Nat)
    (hg : w.heap[g]? = some (.cells cs ty (0, 0))) (hu : Tryz.prog.underlying ty = some (.struct fs)) (hn : cs.size = n) (hi : (Tryz.prog.info? ty).map (·.size) = some n) (h : wpList Tryz.prog ops Q rest (a.put o.dst (.agg cs)) w) : wpList Tryz.prog ops Q (o :: rest) a w :=
  wpList_step fun K hK => by subst hn; rw [if_pos hw]; exact wp_load_row ty x ho g hx ty cs (0, 0) _ hg hu rfl hi (hK _ _ h)


/-- whatever is read, where it is wanted -/
theorem load_l {ops : Array Oper} {rest : List Oper} {o : Oper} {a : Act} {w : World} {Q : Exit → Act → World → Prop} (ty : TypeId) (x : Operand) (ho : o.op = .load ty x) (p : Addr) (hx : a.eval x = .pointer (some p)) (hw : Region.wanted o (yielded ops a.tmps) = true) (v : Value)
    (hl : (loadVar ty p).run Tryz.prog w = .ok v w) (h : wpList Tryz.prog ops Q rest (a.put o.dst v) w) : wpList Tryz.prog ops Q (o :: rest) a w :=
  wpList_step fun K hK => by
    rw [if_pos hw]
    unfold Oper.wp execOp
    simp only [ho, hx, Instr.loadAt, Instr.sureAddr, Sem.run_bind, Sem.run_pure, Result.andThen_ok, hl]
    exact hK _ _ h
theorem kept_row {a b : World} (h : Kept a b) {g : Nat} (hg : a.heap.size ≤ g) (cs : Array Value) : Kept a (b.setRow g cs) :=
  ⟨by rw [setRow_os]; exact h.os, by rw [setRow_tape]; exact h.tape, by rw [setRow_output]; exact h.output, by rw [setRow_size]; exact Below.size h, fun k hk => by rw [setRow_other _ _ _ _ (by omega)]; exact h.block k hk⟩
/-- a whole value goes into the newest block -/
theorem store_new {ops : Array Oper} {rest : List Oper} {o : Oper} {a : Act} {Q : Exit → Act → World → Prop} (hgd : o.guard = none) (ty : TypeId) (x y : Operand) (ho : o.op = .store ty x y) (g : Nat) (cells : Array Value)
    (hx : a.eval x = .pointer (some ⟨g, 0, none⟩)) (hy : a.eval y = .agg cells) (w0 : World) (old : Array Value) (hs : w0.heap.size = g) (n : Nat) (hi : (Tryz.prog.info? ty).map (·.size) = some n) (hc : cells.size = n) (hold : old.size = n) (h1 : cells.all (·.oneCell') = true)
    (h : wpList Tryz.prog ops Q rest (a.put o.dst undef) (w0.alloc (.cells cells ty))) : wpList Tryz.prog ops Q (o :: rest) a (w0.alloc (.cells old ty)) := by
  subst hs
  subst hc
  refine wpList_store_row hgd ty x y ho w0.heap.size cells hx hy ty old (blk_new w0 _) hi hold h1 ?_
  rw [World.setRow_alloc_new]; exact h

end Go.Proofs.YtcoagmkncjonmaaGreatDoor.Ad
