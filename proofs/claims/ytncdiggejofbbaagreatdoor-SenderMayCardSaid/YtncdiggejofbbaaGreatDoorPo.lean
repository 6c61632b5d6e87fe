/- Package policy, and the document's own answers for it: what is known of an attempt that failed, and what it comes to. Package policy: the document's own Decide; how many attempts there may be, both ways; the chapter's example. -/
import Derived.Test.YtncdiggejofbbaaGreatDoorCf
import Derived.Test.YtncdiggejofbbaaGreatDoorTk
import Derived.Test.YtncdiggejofbbaaGreatDoorBuE
import Derived.Test.YtncdiggejofbbaaGreatDoorCdC
namespace Go.Proofs.YtncdiggejofbbaaGreatDoor.Po
open Go.RowKit Go.Sort St Ad
open Go.Proofs.YtncdiggejofbbaaGreatDoor.Id (quiet_at boxed1)
set_option linter.unusedVariables false

/-- what is known of an attempt that failed -/
structure Ft where
  (code att : Int) (com : Bool) (push have_ now due jit : Int)
def Ft.arr (f : Ft) : Array Value :=
  #[.int .i64 f.code, .int .i64 f.att, .bool f.com, .int .i64 f.push, .int .i64 f.have_, .int .i64 f.now, .int .i64 f.due, .int .i64 f.jit]
def Ft.Lim (f : Ft) : Prop := Wd f.code ∧ Wd f.att ∧ Wd f.push ∧ Wd f.have_ ∧ Wd f.now ∧ Wd f.due ∧ Wd f.jit
/-- how long one waits -/
def wait (c : Cf) (f : Ft) : Int := if 0 ≤ f.push then f.push else Bo.late (Bo.step c.base c.most f.att) f.jit
/-- when it may be tried again first -/
def ready (c : Cf) (f : Ft) : Int := Tk.add f.now (wait c f)
/-- why it is tried again, or not, and when -/
def dec (c : Cf) (f : Ft) : Int × Int :=
  if (f.code == 14 || f.code == 8) = false then (1, 0) else if f.com = true then (2, 0) else if c.attempts ≤ f.att then (3, 0) else if f.push = -1 then (4, 0)
  else if Th.may f.have_ c.tokens = false then (5, 0) else if Bu.enough f.due (ready c f) c.least = false then (6, 0) else (0, ready c f)
/-- so many attempts of each there may be -/
def below (c : Cf) : Int := Tk.mul c.fan c.attempts
/-- a power, and the sum of so many -/
def pow (b : Int) : Nat → Int
  | 0 => 1
  | k + 1 => Tk.mul (pow b k) b
def sum (b : Int) : Nat → Int
  | 0 => 0
  | k + 1 => Tk.add (sum b k) (pow b (k + 1))
def hops (n : Int) : Nat := (max 0 (min n 16)).toNat
def most (c : Cf) : Int := sum (below c) (hops c.hops)

theorem wait_push {c : Cf} {f : Ft} (h : 0 ≤ f.push) : ready c f = Tk.add f.now f.push := by unfold ready wait; rw [if_pos h]
theorem wait_own {c : Cf} {f : Ft} (h : ¬ 0 ≤ f.push) : ready c f = Tk.add f.now (Bo.late (Bo.step c.base c.most f.att) f.jit) := by unfold ready wait; rw [if_neg h]




/-- a configuration and facts in blocks of a call's own -/
structure In (w W : World) (t : TypeId) (c : Cf) (f : Ft) : Prop where
  kept : Kept w W
  bc : W.heap[w.heap.size]? = some (.cells c.arr 24 (0, 0))
  bf : W.heap[w.heap.size + 1]? = some (.cells f.arr t (0, 0))
section
variable {w W W' : World} {t : TypeId} {c : Cf} {f : Ft}
theorem In.go (h : In w W t c f) (k : Kept W W') : In w W' t c f := ⟨h.kept.trans k, kept_blk k h.bc, kept_blk k h.bf⟩
theorem In.new (w : World) (t : TypeId) (c : Cf) (f : Ft) : ∃ W, (w.alloc (.cells c.arr 24)).alloc (.cells f.arr t) = W ∧ In w W t c f := by
  refine ⟨_, rfl, Kept.more (Kept.one _ _) _, ?_, ?_⟩
  · exact kept_blk (Kept.one _ _) (blk_new w _)
  · have := blk_new (w.alloc (.cells c.arr 24)) (.cells f.arr t)
    rwa [show (w.alloc (.cells c.arr 24)).heap.size = w.heap.size + 1 by simp] at this
theorem In.atc (h : In w W t c f) (k : Nat) : W.cell? ⟨w.heap.size, k, none⟩ = c.arr[k]? := blk_cell h.bc k
theorem In.atf (h : In w W t c f) (k : Nat) : W.cell? ⟨w.heap.size + 1, k, none⟩ = f.arr[k]? := blk_cell h.bf k
end


/-! the ways that a call goes -/
section
variable {c : Cf} {f : Ft}
theorem dec_bad (h : (f.code == 14 || f.code == 8) = false) : dec c f = (1, 0) := by unfold dec; rw [if_pos h]
theorem dec_taken (h : (f.code == 14 || f.code == 8) = true) (h2 : f.com = true) : dec c f = (2, 0) := by unfold dec; rw [if_neg (by rw [h]; decide), if_pos h2]
theorem dec_spent (h : (f.code == 14 || f.code == 8) = true) (h2 : f.com = false) (h3 : c.attempts ≤ f.att) : dec c f = (3, 0) := by unfold dec; rw [if_neg (by rw [h]; decide), if_neg (by rw [h2]; decide), if_pos h3]
theorem dec_push (h : (f.code == 14 || f.code == 8) = true) (h2 : f.com = false) (h3 : ¬ c.attempts ≤ f.att) (h4 : f.push = -1) : dec c f = (4, 0) := by unfold dec; rw [if_neg (by rw [h]; decide), if_neg (by rw [h2]; decide), if_neg h3, if_pos h4]
theorem dec_thr (h : (f.code == 14 || f.code == 8) = true) (h2 : f.com = false) (h3 : ¬ c.attempts ≤ f.att) (h4 : ¬ f.push = -1) (h5 : Th.may f.have_ c.tokens = false) : dec c f = (5, 0) := by unfold dec; rw [if_neg (by rw [h]; decide), if_neg (by rw [h2]; decide), if_neg h3, if_neg h4, if_pos h5]
theorem dec_late (h : (f.code == 14 || f.code == 8) = true) (h2 : f.com = false) (h3 : ¬ c.attempts ≤ f.att) (h4 : ¬ f.push = -1) (h5 : Th.may f.have_ c.tokens = true) (h6 : Bu.enough f.due (ready c f) c.least = false) : dec c f = (6, 0) := by unfold dec; rw [if_neg (by rw [h]; decide), if_neg (by rw [h2]; decide), if_neg h3, if_neg h4, if_neg (by rw [h5]; decide), if_pos h6]
theorem dec_again (h : (f.code == 14 || f.code == 8) = true) (h2 : f.com = false) (h3 : ¬ c.attempts ≤ f.att) (h4 : ¬ f.push = -1) (h5 : Th.may f.have_ c.tokens = true) (h6 : Bu.enough f.due (ready c f) c.least = true) : dec c f = (0, ready c f) := by unfold dec; rw [if_neg (by rw [h]; decide), if_neg (by rw [h2]; decide), if_neg h3, if_neg h4, if_neg (by rw [h5]; decide), if_neg (by rw [h6]; decide)]
end
theorem ret_dec {c : Cf} {f : Ft} {x y : Int} (h : dec c f = (x, y)) : Ending.returned (.tuple #[.int .i64 x, .int .i64 y]) = .returned (.tuple #[.int .i64 (dec c f).1, .int .i64 (dec c f).2]) := by rw [h]



end Go.Proofs.YtncdiggejofbbaaGreatDoor.Po

namespace Go.Proofs.YtncdiggejofbbaaGreatDoor.Po
open Go.RowKit Go.Sort St Ad
open Go.Proofs.YtncdiggejofbbaaGreatDoor.Id (quiet_at boxed1)
set_option linter.unusedVariables false


theorem kept_as {f : FuncId} {args : Array Value} {v : Value} (h : ∀ u, Calls Tryz.prog f args u fun e w' => e = .returned v ∧ u = w') : ∀ u, Calls Tryz.prog f args u fun e w' => e = .returned v ∧ Kept u w' :=
  fun u => (h u).mono fun _ _ k => ⟨k.1, k.2 ▸ Kept.refl u⟩



theorem hops_int (n : Int) : ((hops n : Nat) : Int) = max 0 (min n 16) := by unfold hops; omega



end Go.Proofs.YtncdiggejofbbaaGreatDoor.Po
