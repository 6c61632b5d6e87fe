/- Package owner, and the document's own answers for it: an owner as a value; roots, when it ends, whether it must stop. -/
import Derived.Test.YtncdiggejofbbaaGreatDoorClT
import Derived.Test.YtncdiggejofbbaaGreatDoorLs
import Derived.Test.YtncdiggejofbbaaGreatDoorBlk
import Derived.Test.YtncdiggejofbbaaGreatDoorBx
import Derived.Test.YtncdiggejofbbaaGreatDoorLe
import Derived.Test.YtncdiggejofbbaaGreatDoorWr
namespace Go.Proofs.YtncdiggejofbbaaGreatDoor.Ow
open Go.RowKit Go.Sort St Blk
open Go.Proofs.YtncdiggejofbbaaGreatDoor.Cl
open Go.Proofs.YtncdiggejofbbaaGreatDoor.Ls
open Go.Proofs.YtncdiggejofbbaaGreatDoor.Id (quiet_at boxed1)
open Go.Proofs.YtncdiggejofbbaaGreatDoor.Ad (load_w)
set_option linter.unusedVariables false

/-- an owner, but for its calls -/
structure Ow where
  (kn ki ks ka rn ri rs pn pi ps pa fr hp dl un pr pc dn : Int)
def Ow.arr (o : Ow) (q : Option Addr) (n c : Nat) : Array Value :=
  #[.int .i64 o.kn, .int .i64 o.ki, .int .i64 o.ks, .int .i64 o.ka, .int .i64 o.rn, .int .i64 o.ri, .int .i64 o.rs, .int .i64 o.pn, .int .i64 o.pi, .int .i64 o.ps, .int .i64 o.pa, .int .i64 o.fr, .int .i64 o.hp, .int .i64 o.dl, .int .i64 o.un, .int .i64 o.pr, .int .i64 o.pc, .int .i64 o.dn, .slice q n c]
def zero : Ow := ⟨0, 0, 0, 0, 0, 0, 0, 0, 0, 0, 0, 0, 0, 0, 0, 0, 0, 0⟩
/-- v reads as these calls -/
abbrev Cls (W : World) (v : Value) (K : List Cl) : Prop := Ls 13 encC W v K
def until' (o : Ow) : Int := if o.ka = 0 then 1125899906842624 else o.un
def endsO (o : Ow) : Int := Le.ends o.dl (until' o)
def overO (o : Ow) (n : Int) : Int := Le.over n o.dl (until' o)
theorem until_root {o : Ow} (h : o.ka = 0) : until' o = 1125899906842624 := by unfold until'; rw [if_pos h]
theorem until_not {o : Ow} (h : ¬ o.ka = 0) : until' o = o.un := by unfold until'; rw [if_neg h]
theorem ends_root {o : Ow} (h : o.ka = 0) : endsO o = Tk.clamp o.dl := by
  unfold endsO Le.ends
  rw [until_root h, Tk.clamp_id 1125899906842624 (by omega) (by omega)]
  have := Tk.clamp_hi o.dl
  omega
theorem ends_not {o : Ow} (h : ¬ o.ka = 0) : endsO o = Le.ends o.dl o.un := by unfold endsO; rw [until_not h]
theorem info_ow : (Tryz.prog.info? 39).map (·.size) = some 19 := by kernel_rfl
theorem info_row : (Tryz.prog.info? 31).map (·.size) = some 19 := by kernel_rfl

set_option maxRecDepth 100000 in
set_option maxHeartbeats 1000000 in
theorem isroot_any (o : Ow) (q : Option Addr) (n c : Nat) (w : World) : Calls Tryz.prog 34 #[.agg (o.arr q n c)] w fun e w' => e = .returned (.bool (o.ka == 0)) ∧ Kept w w' := by
  obtain ⟨x0, x1, x2, x3, x4, x5, x6, x7, x8, x9, x10, x11, x12, x13, x14, x15, x16, x17⟩ := o
  simp only [Ow.arr]
  go_enter Tryz.func34, Tryz.ntmps34
  go_wp2_with fail
  go_ret
  exact ⟨rfl, Kept.one _ _⟩


theorem loadA_regrown {W : World} {b : Nat} {A : Array Value} {t : TypeId} {fs} (hb : W.heap[b]? = some (.cells A t (0, 0))) (hu : Tryz.prog.underlying t = some (.struct fs)) (hi : (Tryz.prog.info? t).map (·.size) = some A.size) :
    Hid (∀ w, (∃ p : Regrown, w = grow (redrawn W p.d) p.os) → (loadVar t ⟨b, 0, none⟩).run Tryz.prog w = .ok (.agg A) w) :=
  fun w ⟨p, hp⟩ => by subst hp; exact run_loadVar_row _ b _ _ A (0, 0) _ (Ad.kept_blk (below_regrown W p.d p.os) hb) hu rfl hi





end Go.Proofs.YtncdiggejofbbaaGreatDoor.Ow
