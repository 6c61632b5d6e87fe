/- Configurations, and what a node looks at; package admit, and the document's own answers for it: what they come to. -/
import Derived.Test.YtnloliedmdjakaaBuD
import Derived.Test.YtnloliedmdjakaaPkS
import Derived.Test.YtnloliedmdjakaaBx
import Derived.Deep.WholeRow
import Derived.Deep.Cut
import Derived.Deep.RegionHeld3
import Derived.IntWalk
namespace Go.Proofs.Ytnloliedmdjakaa.Ad
open Go.RowKit Go.Sort St PkM IdM
open Go.Proofs.Ytnloliedmdjakaa.Id (quiet_at)
set_option linter.unusedVariables false

structure Cf where
  (nodes skew lease grain least hops cap fan attempts base most wait tokens : Int) (pa : Option Addr) (pn pc : Nat)
def Cf.arr (c : Cf) : Array Value :=
  #[.int .i64 c.nodes, .int .i64 c.skew, .int .i64 c.lease, .int .i64 c.grain, .int .i64 c.least, .int .i64 c.hops, .int .i64 c.cap, .int .i64 c.fan, .int .i64 c.attempts, .int .i64 c.base, .int .i64 c.most, .int .i64 c.wait, .int .i64 c.tokens, .slice c.pa c.pn c.pc]
/-- what a node looks at -/
structure Ro where
  (now running programs : Int) (seen : Bool)
def Ro.arr (r : Ro) : Array Value := #[.int .i64 r.now, .int .i64 r.running, .int .i64 r.programs, .bool r.seen]

/-- a number, and what it may be -/
def bnds (c : Cf) : List (Int × Int × Int) :=
  [(c.nodes, 1, 64), (c.skew, 0, 1000), (c.lease, 1, 1000000), (c.grain, 0, 6), (c.least, 1, 1000000), (c.hops, 1, 16), (c.cap, 1, 64), (c.fan, 1, 8), (c.attempts, 1, 5), (c.base, 1, 1000000), (c.most, 1, 1000000), (c.wait, 1, 1000000), (c.tokens, 1, 1000), ((c.pn : Int), 1, 16)]
def inB (n a b : Int) : Bool := decide (a ≤ n ∧ n ≤ b)
def right (c : Cf) : Bool := (bnds c).all (fun e => inB e.1 e.2.1 e.2.2) && decide (c.base ≤ c.most)
/-- a call's deadline -/
def dlP (p : Pk) : Int := (Bu.dl p.stamp p.tm.data.toList).1
/-- what is done, and a code or a wait -/
def chk (c : Cf) (p : Pk) (r : Ro) : Int × Int :=
  if r.seen = true then (3, 0) else if c.hops < p.hop then (1, 8) else if p.prog < 0 ∨ r.programs ≤ p.prog then (1, 12)
  else if Bu.enough (dlP p) r.now c.least = false then (1, 4) else if Tk.clamp p.til ≤ Tk.clamp r.now then (1, 1) else if c.cap ≤ r.running then (2, c.base) else (0, 0)

theorem dlP_ret {p : Pk} {x : Int} (h : dlP p = x) : Ending.returned (.int .i64 (Bu.dl p.stamp p.tm.data.toList).1) = .returned (.int .i64 x) := by rw [← h]; rfl
theorem info_cf : (Try.prog.info? 24).map (·.size) = some 14 := by kernel_rfl
theorem info_pk : (Try.prog.info? 30).map (·.size) = some 23 := by kernel_rfl
theorem info_ro : (Try.prog.info? 32).map (·.size) = some 4 := by kernel_rfl
theorem kept_blk {c : Nat} {x y : World} {o : Obj} (h : Kept x y) (hc : x.heap[c]? = some o) : y.heap[c]? = some o := by rw [Below.block h c (blk_lt hc)]; exact hc

/-- a row read whole, in a region whose calls make memory -/
theorem quiet_row {a : Act} {o : Oper} {C : World → Prop} {K : Act → Prop} (ty : TypeId) (x : Operand) (ho : o.op = .load ty x) (g : Nat) (hx : a.eval x = .pointer (some ⟨g, 0, none⟩)) (cs : Array Value)
    (hl : ∀ w, C w → (loadVar ty ⟨g, 0, none⟩).run Try.prog w = .ok (.agg cs) w) (hk : K (a.put o.dst (.agg cs))) : o.quiet Try.prog a C K := by
  refine ⟨.agg cs, fun w hw => ?_, hk⟩
  unfold Oper.quietAt execOp
  simp only [ho, hx, Instr.loadAt, Instr.sureAddr, Sem.run_bind, Sem.run_pure, Result.andThen_ok, hl w hw]
  exact ⟨rfl, rfl⟩
theorem loadp_regrown {W : World} {b : Nat} {p : Pk} (hb : W.heap[b]? = some (.cells p.arr 30 (0, 0))) :
    Hid (∀ w, (∃ q : Regrown, w = grow (redrawn W q.d) q.os) → (loadVar 30 ⟨b, 0, none⟩).run Try.prog w = .ok (.agg p.arr) w) :=
  fun w ⟨q, hq⟩ => by subst hq; exact run_loadVar_row _ b _ _ p.arr (0, 0) _ (kept_blk (below_regrown W q.d q.os) hb) Try.underlying30 rfl info_pk
theorem loadc_regrown {W : World} {b : Nat} {c : Cf} (hb : W.heap[b]? = some (.cells c.arr 24 (0, 0))) :
    Hid (∀ w, (∃ q : Regrown, w = grow (redrawn W q.d) q.os) → (loadVar 24 ⟨b, 0, none⟩).run Try.prog w = .ok (.agg c.arr) w) :=
  fun w ⟨q, hq⟩ => by subst hq; exact run_loadVar_row _ b _ _ c.arr (0, 0) _ (kept_blk (below_regrown W q.d q.os) hb) Try.underlying24 rfl info_cf

/-- where a call on a configuration, a packet and a room stands -/
structure In (w W : World) (c : Cf) (p : Pk) (r : Ro) : Prop where
  kept : Kept w W
  bc : W.heap[w.heap.size]? = some (.cells c.arr 24 (0, 0))
  bp : W.heap[w.heap.size + 1]? = some (.cells p.arr 30 (0, 0))
  br : W.heap[w.heap.size + 2]? = some (.cells r.arr 32 (0, 0))
section
variable {w W W' : World} {c : Cf} {p : Pk} {r : Ro}
theorem In.go (h : In w W c p r) (k : Kept W W') : In w W' c p r := ⟨h.kept.trans k, kept_blk k h.bc, kept_blk k h.bp, kept_blk k h.br⟩
theorem In.new (w : World) (c : Cf) (p : Pk) (r : Ro) : ∃ W, ((w.alloc (.cells c.arr 24)).alloc (.cells p.arr 30)).alloc (.cells r.arr 32) = W ∧ In w W c p r := by
  refine ⟨_, rfl, Kept.more (Kept.more (Kept.one _ _) _) _, ?_, ?_, ?_⟩
  · exact kept_blk (Kept.one _ _) (kept_blk (Kept.one _ _) (blk_new w _))
  · have := blk_new (w.alloc (.cells c.arr 24)) (.cells p.arr 30)
    rw [show (w.alloc (.cells c.arr 24)).heap.size = w.heap.size + 1 by simp] at this
    exact kept_blk (Kept.one _ _) this
  · have := blk_new ((w.alloc (.cells c.arr 24)).alloc (.cells p.arr 30)) (.cells r.arr 32)
    rwa [show ((w.alloc (.cells c.arr 24)).alloc (.cells p.arr 30)).heap.size = w.heap.size + 2 by simp] at this
theorem In.atc (h : In w W c p r) (k : Nat) : W.cell? ⟨w.heap.size, k, none⟩ = c.arr[k]? := blk_cell h.bc k
theorem In.atp (h : In w W c p r) (k : Nat) : W.cell? ⟨w.heap.size + 1, k, none⟩ = p.arr[k]? := blk_cell h.bp k
theorem In.atr (h : In w W c p r) (k : Nat) : W.cell? ⟨w.heap.size + 2, k, none⟩ = r.arr[k]? := blk_cell h.br k
end

/-! a call's deadline -/
set_option maxRecDepth 100000 in
set_option maxHeartbeats 1000000 in
theorem deadline_p (p : Pk) (w : World) : Calls Try.prog 11 #[.agg p.arr] w fun e w' => e = .returned (.int .i64 (dlP p)) ∧ Kept w w' := by
  have hc := Bu.deadline_any p.stamp p.tm
  obtain ⟨x, hx⟩ : ∃ x, dlP p = x := ⟨_, rfl⟩
  obtain ⟨y, hy⟩ : ∃ y, (Bu.dl p.stamp p.tm.data.toList).2 = y := ⟨_, rfl⟩
  rw [show (Bu.dl p.stamp p.tm.data.toList).1 = x from hx, hy] at hc
  have HC := Lib.hid hc
  have HW := Lib.hid (show Kept w (w.alloc (.cells p.arr 30)) from Kept.one _ _)
  rw [hx]
  have x8 : p.arr[8]? = some (.int .i64 p.stamp) := rfl
  have x9 : p.arr[9]? = some (.string p.tm) := rfl
  clear hc hx hy
  go_enter Try.func11, Try.ntmps11
  go_wp2_with (go_at_call 19; refine (HC.out _).mono ?_; rintro e w' ⟨rfl, rfl⟩)
  go_ret
  exact ⟨rfl, HW.out⟩

set_option maxRecDepth 100000 in
set_option maxHeartbeats 1000000 in
theorem rdeadline_p (p : Pk) (w : World) : Calls Try.prog 12 #[.agg p.arr] w fun e w' => e = .returned (.int .i64 (dlP p)) ∧ Kept w w' := by
  have hc := Bu.rdeadline_any p.stamp p.tm
  obtain ⟨x, hx⟩ : ∃ x, dlP p = x := ⟨_, rfl⟩
  obtain ⟨y, hy⟩ : ∃ y, (Bu.dl p.stamp p.tm.data.toList).2 = y := ⟨_, rfl⟩
  rw [show (Bu.dl p.stamp p.tm.data.toList).1 = x from hx, hy] at hc
  have HC := Lib.hid hc
  have HW := Lib.hid (show Kept w (w.alloc (.cells p.arr 30)) from Kept.one _ _)
  rw [hx]
  have x8 : p.arr[8]? = some (.int .i64 p.stamp) := rfl
  have x9 : p.arr[9]? = some (.string p.tm) := rfl
  clear hc hx hy
  go_enter Try.func12, Try.ntmps12
  go_wp2_with (go_at_call 20; refine (HC.out _).mono ?_; rintro e w' ⟨rfl, rfl⟩)
  go_ret
  exact ⟨rfl, HW.out⟩

set_option maxHeartbeats 400000 in
theorem in_any (n a b : Int) (w : World) : Calls Try.prog 18 #[.int .i64 n, .int .i64 a, .int .i64 b] w fun e w' => e = .returned (.bool (inB n a b)) ∧ w = w' := by
  by_cases h1 : a ≤ n
  · by_cases h2 : n ≤ b
    · go_enter Try.func18, Try.ntmps18
      go_wp2_with fail
      go_ret
      exact ⟨ret_bool (by simp [inB, h1, h2]), rfl⟩
    · go_enter Try.func18, Try.ntmps18
      go_wp2_with fail
      go_ret
      exact ⟨ret_bool (by simp [inB, h1, h2]), rfl⟩
  · go_enter Try.func18, Try.ntmps18
    go_wp2_with fail
    go_ret
    exact ⟨ret_bool (by simp [inB]; omega), rfl⟩
theorem in_as {n a b : Int} {z : Bool} (h : Hid (inB n a b = z)) {w : World} : Calls Try.prog 18 #[.int .i64 n, .int .i64 a, .int .i64 b] w fun e w' => e = .returned (.bool z) ∧ w = w' := by
  have := in_any n a b w; rwa [h.out] at this

end Go.Proofs.Ytnloliedmdjakaa.Ad
