/- Package policy, and the document's own answers for it: what is known of an attempt that failed, and what it comes to. Package policy: the document's own Decide; how many attempts there may be, both ways; the chapter's example. -/
import Derived.Test.YtncdiggejofbbaaDoorCf
import Derived.Test.YtncdiggejofbbaaDoorTk
import Derived.Test.YtncdiggejofbbaaDoorBuE
import Derived.Test.YtncdiggejofbbaaDoorBo
import Derived.Test.YtncdiggejofbbaaDoorTh
import Derived.Test.YtncdiggejofbbaaDoorCdC
namespace Go.Proofs.YtncdiggejofbbaaDoor.Po
open Go.RowKit Go.Sort St Ad
open Go.Proofs.YtncdiggejofbbaaDoor.Id (quiet_at boxed1)
set_option linter.unusedVariables false

/-- what is known of an attempt that failed -/
structure Ft where
  (code att : Int) (com : Bool) (push have_ now due jit : Int)
def Ft.arr (f : Ft) : Array Value :=
  #[.int .i64 f.code, .int .i64 f.att, .bool f.com, .int .i64 f.push, .int .i64 f.have_, .int .i64 f.now, .int .i64 f.due, .int .i64 f.jit]
def Ft.Lim (f : Ft) : Prop := Wd f.code ∧ Wd f.att ∧ Wd f.push ∧ Wd f.have_ ∧ Wd f.now ∧ Wd f.due ∧ Wd f.jit
/-- how long one waits -/
def wait (c : Cf) (f : Ft) : Int := if 0 ≤ f.push then f.push else Bo.late (Bo.step c.base c.most f.att) f.jit
/-- when it may be tried again first -/
def ready (c : Cf) (f : Ft) : Int := Tk.add f.now (wait c f)
/-- why it is tried again, or not, and when -/
def dec (c : Cf) (f : Ft) : Int × Int :=
  if (f.code == 14 || f.code == 8) = false then (1, 0) else if f.com = true then (2, 0) else if c.attempts ≤ f.att then (3, 0) else if f.push = -1 then (4, 0)
  else if Th.may f.have_ c.tokens = false then (5, 0) else if Bu.enough f.due (ready c f) c.least = false then (6, 0) else (0, ready c f)
/-- so many attempts of each there may be -/
def below (c : Cf) : Int := Tk.mul c.fan c.attempts
/-- a power, and the sum of so many -/
def pow (b : Int) : Nat → Int
  | 0 => 1
  | k + 1 => Tk.mul (pow b k) b
def sum (b : Int) : Nat → Int
  | 0 => 0
  | k + 1 => Tk.add (sum b k) (pow b (k + 1))
def hops (n : Int) : Nat := (max 0 (min n 16)).toNat
def most (c : Cf) : Int := sum (below c) (hops c.hops)

theorem wait_push {c : Cf} {f : Ft} (h : 0 ≤ f.push) : ready c f = Tk.add f.now f.push := by unfold ready wait; rw [if_pos h]
theorem wait_own {c : Cf} {f : Ft} (h : ¬ 0 ≤ f.push) : ready c f = Tk.add f.now (Bo.late (Bo.step c.base c.most f.att) f.jit) := by unfold ready wait; rw [if_neg h]

theorem info_ft : (Tryd.prog.info? 83).map (·.size) = some 8 := by kernel_rfl
theorem info_rft : (Tryd.prog.info? 84).map (·.size) = some 8 := by kernel_rfl

/-- a configuration and facts in blocks of a call's own -/
structure In (w W : World) (t : TypeId) (c : Cf) (f : Ft) : Prop where
  kept : Kept w W
  bc : W.heap[w.heap.size]? = some (.cells c.arr 24 (0, 0))
  bf : W.heap[w.heap.size + 1]? = some (.cells f.arr t (0, 0))
section
variable {w W W' : World} {t : TypeId} {c : Cf} {f : Ft}
theorem In.go (h : In w W t c f) (k : Kept W W') : In w W' t c f := ⟨h.kept.trans k, kept_blk k h.bc, kept_blk k h.bf⟩
theorem In.new (w : World) (t : TypeId) (c : Cf) (f : Ft) : ∃ W, (w.alloc (.cells c.arr 24)).alloc (.cells f.arr t) = W ∧ In w W t c f := by
  refine ⟨_, rfl, Kept.more (Kept.one _ _) _, ?_, ?_⟩
  · exact kept_blk (Kept.one _ _) (blk_new w _)
  · have := blk_new (w.alloc (.cells c.arr 24)) (.cells f.arr t)
    rwa [show (w.alloc (.cells c.arr 24)).heap.size = w.heap.size + 1 by simp] at this
theorem In.atc (h : In w W t c f) (k : Nat) : W.cell? ⟨w.heap.size, k, none⟩ = c.arr[k]? := blk_cell h.bc k
theorem In.atf (h : In w W t c f) (k : Nat) : W.cell? ⟨w.heap.size + 1, k, none⟩ = f.arr[k]? := blk_cell h.bf k
end

set_option maxRecDepth 100000 in
set_option maxHeartbeats 1000000 in
theorem ready_any (c : Cf) (f : Ft) (hf : f.att ≤ 9223372036854775807) (w : World) : Calls Tryd.prog 89 #[.agg c.arr, .agg f.arr] w fun e w' => e = .returned (.int .i64 (ready c f)) ∧ Kept w w' := by
  obtain ⟨W, hW, hI⟩ := In.new w 83 c f
  have x1 : W.cell? ⟨w.heap.size + 1, 1, none⟩ = some (.int .i64 f.att) := hI.atf 1
  have x3 : W.cell? ⟨w.heap.size + 1, 3, none⟩ = some (.int .i64 f.push) := hI.atf 3
  have x5 : W.cell? ⟨w.heap.size + 1, 5, none⟩ = some (.int .i64 f.now) := hI.atf 5
  have x7 : W.cell? ⟨w.heap.size + 1, 7, none⟩ = some (.int .i64 f.jit) := hI.atf 7
  have y9 : W.cell? ⟨w.heap.size, 9, none⟩ = some (.int .i64 c.base) := hI.atc 9
  have y10 : W.cell? ⟨w.heap.size, 10, none⟩ = some (.int .i64 c.most) := hI.atc 10
  have HW := Lib.hid hW
  have HK := Lib.hid hI.kept
  obtain ⟨z, hz⟩ : ∃ z, ready c f = z := ⟨_, rfl⟩
  rw [hz]
  by_cases h : 0 ≤ f.push
  · have C1 := Lib.hid (show ∀ u, Calls Tryd.prog 82 #[.int .i64 f.now, .int .i64 f.push] u fun e w' => e = .returned (.int .i64 z) ∧ u = w' from fun u => by rw [← hz, wait_push h]; exact Tk.add_any _ _ u)
    clear hW hz hI
    go_enter Tryd.func89, Tryd.ntmps89
    go_upto_region 1 with fail
    rw [HW.out]
    go_wp2_with (go_at_call 82; refine (C1.out _).mono ?_; rintro e w' ⟨rfl, rfl⟩)
    go_ret
    exact ⟨rfl, HK.out⟩
  · obtain ⟨d, hd⟩ : ∃ d, Bo.late (Bo.step c.base c.most f.att) f.jit = d := ⟨_, rfl⟩
    have C1 := Lib.hid (show ∀ u, Calls Tryd.prog 82 #[.int .i64 f.now, .int .i64 d] u fun e w' => e = .returned (.int .i64 z) ∧ u = w' from fun u => by rw [← hz, wait_own h, hd]; exact Tk.add_any _ _ u)
    have C2 := Lib.hid (show ∀ u, Calls Tryd.prog 102 #[.int .i64 c.base, .int .i64 c.most, .int .i64 f.att, .int .i64 f.jit] u fun e w' => e = .returned (.int .i64 d) ∧ u = w' from fun u => by rw [← hd]; exact Bo.delay_any _ _ _ _ hf u)
    clear hW hz hI hd hf
    go_enter Tryd.func89, Tryd.ntmps89
    go_upto_region 1 with fail
    rw [HW.out]
    go_wp2_with fail
    go_quiet (first | (go_at_call 102; exact Calls.quiet_of_same ((C2.out _).mono fun _ _ h => ⟨h.1, h.2.symm⟩)) | (go_at_call 82; exact Calls.quiet_of_same ((C1.out _).mono fun _ _ h => ⟨h.1, h.2.symm⟩)))
    go_wp2_with fail
    go_ret
    exact ⟨rfl, HK.out.drewN _⟩

/-! the ways that a call goes -/
section
variable {c : Cf} {f : Ft}
theorem dec_bad (h : (f.code == 14 || f.code == 8) = false) : dec c f = (1, 0) := by unfold dec; rw [if_pos h]
theorem dec_taken (h : (f.code == 14 || f.code == 8) = true) (h2 : f.com = true) : dec c f = (2, 0) := by unfold dec; rw [if_neg (by rw [h]; decide), if_pos h2]
theorem dec_spent (h : (f.code == 14 || f.code == 8) = true) (h2 : f.com = false) (h3 : c.attempts ≤ f.att) : dec c f = (3, 0) := by unfold dec; rw [if_neg (by rw [h]; decide), if_neg (by rw [h2]; decide), if_pos h3]
theorem dec_push (h : (f.code == 14 || f.code == 8) = true) (h2 : f.com = false) (h3 : ¬ c.attempts ≤ f.att) (h4 : f.push = -1) : dec c f = (4, 0) := by unfold dec; rw [if_neg (by rw [h]; decide), if_neg (by rw [h2]; decide), if_neg h3, if_pos h4]
theorem dec_thr (h : (f.code == 14 || f.code == 8) = true) (h2 : f.com = false) (h3 : ¬ c.attempts ≤ f.att) (h4 : ¬ f.push = -1) (h5 : Th.may f.have_ c.tokens = false) : dec c f = (5, 0) := by unfold dec; rw [if_neg (by rw [h]; decide), if_neg (by rw [h2]; decide), if_neg h3, if_neg h4, if_pos h5]
theorem dec_late (h : (f.code == 14 || f.code == 8) = true) (h2 : f.com = false) (h3 : ¬ c.attempts ≤ f.att) (h4 : ¬ f.push = -1) (h5 : Th.may f.have_ c.tokens = true) (h6 : Bu.enough f.due (ready c f) c.least = false) : dec c f = (6, 0) := by unfold dec; rw [if_neg (by rw [h]; decide), if_neg (by rw [h2]; decide), if_neg h3, if_neg h4, if_neg (by rw [h5]; decide), if_pos h6]
theorem dec_again (h : (f.code == 14 || f.code == 8) = true) (h2 : f.com = false) (h3 : ¬ c.attempts ≤ f.att) (h4 : ¬ f.push = -1) (h5 : Th.may f.have_ c.tokens = true) (h6 : Bu.enough f.due (ready c f) c.least = true) : dec c f = (0, ready c f) := by unfold dec; rw [if_neg (by rw [h]; decide), if_neg (by rw [h2]; decide), if_neg h3, if_neg h4, if_neg (by rw [h5]; decide), if_neg (by rw [h6]; decide)]
end
theorem ret_dec {c : Cf} {f : Ft} {x y : Int} (h : dec c f = (x, y)) : Ending.returned (.tuple #[.int .i64 x, .int .i64 y]) = .returned (.tuple #[.int .i64 (dec c f).1, .int .i64 (dec c f).2]) := by rw [h]

set_option maxRecDepth 100000 in
set_option maxHeartbeats 1000000 in
theorem rready_any (c : Cf) (f : Ft) (w : World) : Calls Tryd.prog 94 #[.agg c.arr, .agg f.arr] w fun e w' => e = .returned (.int .i64 (ready c f)) ∧ Kept w w' := by
  obtain ⟨W, hW, hI⟩ := In.new w 84 c f
  have x1 : W.cell? ⟨w.heap.size + 1, 1, none⟩ = some (.int .i64 f.att) := hI.atf 1
  have x3 : W.cell? ⟨w.heap.size + 1, 3, none⟩ = some (.int .i64 f.push) := hI.atf 3
  have x5 : W.cell? ⟨w.heap.size + 1, 5, none⟩ = some (.int .i64 f.now) := hI.atf 5
  have x7 : W.cell? ⟨w.heap.size + 1, 7, none⟩ = some (.int .i64 f.jit) := hI.atf 7
  have y9 : W.cell? ⟨w.heap.size, 9, none⟩ = some (.int .i64 c.base) := hI.atc 9
  have y10 : W.cell? ⟨w.heap.size, 10, none⟩ = some (.int .i64 c.most) := hI.atc 10
  have HW := Lib.hid hW
  have HK := Lib.hid hI.kept
  obtain ⟨z, hz⟩ : ∃ z, ready c f = z := ⟨_, rfl⟩
  rw [hz]
  obtain ⟨d, hd⟩ : ∃ d, Bo.late (Bo.step c.base c.most f.att) f.jit = d := ⟨_, rfl⟩
  have C2 := Lib.hid (show ∀ u, Calls Tryd.prog 103 #[.int .i64 c.base, .int .i64 c.most, .int .i64 f.att, .int .i64 f.jit] u fun e w' => e = .returned (.int .i64 d) ∧ u = w' from fun u => by rw [← hd]; exact Bo.rdelay_any _ _ _ _ u)
  by_cases h : 0 ≤ f.push
  · have C1 := Lib.hid (show ∀ u, Calls Tryd.prog 104 #[.int .i64 f.now, .int .i64 f.push] u fun e w' => e = .returned (.int .i64 z) ∧ u = w' from fun u => by rw [← hz, wait_push h]; exact Tk.radd_any _ _ u)
    clear hW hz hI hd
    go_enter Tryd.func94, Tryd.ntmps94
    go_upto_region 1 with fail
    rw [HW.out]
    go_wp2_with (first | (go_at_call 103; refine (C2.out _).mono ?_; rintro e w' ⟨rfl, rfl⟩) | (go_at_call 104; refine (C1.out _).mono ?_; rintro e w' ⟨rfl, rfl⟩))
    go_ret
    exact ⟨rfl, HK.out⟩
  · have C1 := Lib.hid (show ∀ u, Calls Tryd.prog 104 #[.int .i64 f.now, .int .i64 d] u fun e w' => e = .returned (.int .i64 z) ∧ u = w' from fun u => by rw [← hz, wait_own h, hd]; exact Tk.radd_any _ _ u)
    clear hW hz hI hd
    go_enter Tryd.func94, Tryd.ntmps94
    go_upto_region 1 with fail
    rw [HW.out]
    go_wp2_with (first | (go_at_call 103; refine (C2.out _).mono ?_; rintro e w' ⟨rfl, rfl⟩) | (go_at_call 104; refine (C1.out _).mono ?_; rintro e w' ⟨rfl, rfl⟩))
    go_ret
    exact ⟨rfl, HK.out⟩

set_option maxRecDepth 100000 in
set_option maxHeartbeats 2000000 in
theorem dec_any (c : Cf) (f : Ft) (hf : f.att ≤ 9223372036854775807) (w : World) : Calls Tryd.prog 72 #[.agg c.arr, .agg f.arr] w fun e w' => e = .returned (.tuple #[.int .i64 (dec c f).1, .int .i64 (dec c f).2]) ∧ Kept w w' := by
  obtain ⟨W, hW, hI⟩ := In.new w 83 c f
  have HW := Lib.hid hW
  have HI := Lib.hid hI
  obtain ⟨z, hz⟩ : ∃ z, ready c f = z := ⟨_, rfl⟩
  obtain ⟨m, hm⟩ : ∃ m, Th.may f.have_ c.tokens = m := ⟨_, rfl⟩
  obtain ⟨n, hn⟩ : ∃ n, Bu.enough f.due z c.least = n := ⟨_, rfl⟩
  obtain ⟨g, hg⟩ : ∃ g, (f.code == 14 || f.code == 8) = g := ⟨_, rfl⟩
  have C1 := Lib.hid (show ∀ u, Calls Tryd.prog 89 #[.agg c.arr, .agg f.arr] u fun e w' => e = .returned (.int .i64 z) ∧ Kept u w' from fun u => by rw [← hz]; exact ready_any c f hf u)
  have C2 := Lib.hid (show ∀ u, Calls Tryd.prog 90 #[.int .i64 f.code] u fun e w' => e = .returned (.bool g) ∧ u = w' from fun u => by rw [← hg]; exact Cd.again_any _ u)
  have C3 := Lib.hid (show ∀ u, Calls Tryd.prog 91 #[.int .i64 f.have_, .int .i64 c.tokens] u fun e w' => e = .returned (.bool m) ∧ u = w' from fun u => by rw [← hm]; exact Th.may_any _ _ u)
  have C4 := Lib.hid (show ∀ u, Calls Tryd.prog 36 #[.int .i64 f.due, .int .i64 z, .int .i64 c.least] u fun e w' => e = .returned (.bool n) ∧ u = w' from fun u => by rw [← hn]; exact Bu.enough_any _ _ _ u)
  have HZ := Lib.hid hz
  have HM := Lib.hid hm
  have HN := Lib.hid (show Bu.enough f.due (ready c f) c.least = n by rw [hz]; exact hn)
  have HG := Lib.hid hg
  clear hW hz hm hn hg hf
  go_enter Tryd.func72, Tryd.ntmps72
  go_upto_region 1 with fail
  rw [HW.out]
  go_upto_region 2 with (first
    | (go_at_call 89; refine (C1.out _).mono ?_; rintro e u1 ⟨rfl, hk1⟩)
    | (refine load_w 24 (.tmp 2) rfl w.heap.size rfl rfl c.arr 14 hI.bc Tryd.underlying24 rfl info_cf ?_)
    | (refine load_w 83 (.tmp 3) rfl (w.heap.size + 1) rfl rfl f.arr 8 hI.bf Tryd.underlying83 rfl info_ft ?_))
  have hJ := HI.out.go hk1
  have HK := Lib.hid hJ.kept
  have x0 : u1.cell? ⟨w.heap.size + 1, 0, none⟩ = some (.int .i64 f.code) := hJ.atf 0
  have x1 : u1.cell? ⟨w.heap.size + 1, 1, none⟩ = some (.int .i64 f.att) := hJ.atf 1
  have x2 : u1.cell? ⟨w.heap.size + 1, 2, none⟩ = some (.bool f.com) := hJ.atf 2
  have x3 : u1.cell? ⟨w.heap.size + 1, 3, none⟩ = some (.int .i64 f.push) := hJ.atf 3
  have x4 : u1.cell? ⟨w.heap.size + 1, 4, none⟩ = some (.int .i64 f.have_) := hJ.atf 4
  have x6 : u1.cell? ⟨w.heap.size + 1, 6, none⟩ = some (.int .i64 f.due) := hJ.atf 6
  have y4 : u1.cell? ⟨w.heap.size, 4, none⟩ = some (.int .i64 c.least) := hJ.atc 4
  have y8 : u1.cell? ⟨w.heap.size, 8, none⟩ = some (.int .i64 c.attempts) := hJ.atc 8
  have y12 : u1.cell? ⟨w.heap.size, 12, none⟩ = some (.int .i64 c.tokens) := hJ.atc 12
  clear hk1 hI hJ
  cases g
  · have HE := Lib.hid (dec_bad (c := c) HG.out)
    go_wp2_with (go_at_call 90; refine (C2.out _).mono ?_; rintro e w' ⟨rfl, rfl⟩)
    go_ret2
    exact ⟨ret_dec HE.out, HK.out⟩
  rcases Bool.eq_false_or_eq_true f.com with h2 | h2
  · have HE := Lib.hid (dec_taken (c := c) HG.out h2)
    go_wp2_with (go_at_call 90; refine (C2.out _).mono ?_; rintro e w' ⟨rfl, rfl⟩)
    go_ret2
    exact ⟨ret_dec HE.out, HK.out⟩
  by_cases h3 : c.attempts ≤ f.att
  · have HE := Lib.hid (dec_spent (c := c) HG.out h2 h3)
    go_wp2_with (go_at_call 90; refine (C2.out _).mono ?_; rintro e w' ⟨rfl, rfl⟩)
    go_ret2
    exact ⟨ret_dec HE.out, HK.out⟩
  by_cases h4 : f.push = -1
  · have HE := Lib.hid (dec_push (c := c) HG.out h2 h3 h4)
    have h4b : (f.push == -1) = true := by simpa using h4
    clear h4
    go_wp2_with (go_at_call 90; refine (C2.out _).mono ?_; rintro e w' ⟨rfl, rfl⟩)
    go_ret2
    exact ⟨ret_dec HE.out, HK.out⟩
  have H4 := Lib.hid h4
  have h4b : (f.push == -1) = false := by simpa using h4
  clear h4
  cases m
  · have HE := Lib.hid (dec_thr (c := c) HG.out h2 h3 H4.out HM.out)
    go_wp2_with (first | (go_at_call 90; refine (C2.out _).mono ?_; rintro e w' ⟨rfl, rfl⟩) | (go_at_call 91; refine (C3.out _).mono ?_; rintro e w' ⟨rfl, rfl⟩))
    go_ret2
    exact ⟨ret_dec HE.out, HK.out⟩
  cases n
  · have HE := Lib.hid (dec_late (c := c) HG.out h2 h3 H4.out HM.out HN.out)
    go_wp2_with (first | (go_at_call 90; refine (C2.out _).mono ?_; rintro e w' ⟨rfl, rfl⟩) | (go_at_call 91; refine (C3.out _).mono ?_; rintro e w' ⟨rfl, rfl⟩) | (go_at_call 36; refine (C4.out _).mono ?_; rintro e w' ⟨rfl, rfl⟩))
    go_ret2
    exact ⟨ret_dec HE.out, HK.out⟩
  · have HE := Lib.hid (show dec c f = (0, z) by rw [← HZ.out]; exact dec_again (c := c) HG.out h2 h3 H4.out HM.out HN.out)
    go_wp2_with (first | (go_at_call 90; refine (C2.out _).mono ?_; rintro e w' ⟨rfl, rfl⟩) | (go_at_call 91; refine (C3.out _).mono ?_; rintro e w' ⟨rfl, rfl⟩) | (go_at_call 36; refine (C4.out _).mono ?_; rintro e w' ⟨rfl, rfl⟩))
    go_ret2
    exact ⟨ret_dec HE.out, HK.out⟩

end Go.Proofs.YtncdiggejofbbaaDoor.Po

namespace Go.Proofs.YtncdiggejofbbaaDoor.Po
open Go.RowKit Go.Sort St Ad
open Go.Proofs.YtncdiggejofbbaaDoor.Id (quiet_at boxed1)
set_option linter.unusedVariables false

theorem loadf_regrown {W : World} {b : Nat} {f : Ft} (hb : W.heap[b]? = some (.cells f.arr 84 (0, 0))) :
    Hid (∀ w, (∃ q : Regrown, w = grow (redrawn W q.d) q.os) → (loadVar 84 ⟨b, 0, none⟩).run Tryd.prog w = .ok (.agg f.arr) w) :=
  fun w ⟨q, hq⟩ => by subst hq; exact run_loadVar_row _ b _ _ f.arr (0, 0) _ (kept_blk (below_regrown W q.d q.os) hb) Tryd.underlying84 rfl info_rft
theorem kept_as {f : FuncId} {args : Array Value} {v : Value} (h : ∀ u, Calls Tryd.prog f args u fun e w' => e = .returned v ∧ u = w') : ∀ u, Calls Tryd.prog f args u fun e w' => e = .returned v ∧ Kept u w' :=
  fun u => (h u).mono fun _ _ k => ⟨k.1, k.2 ▸ Kept.refl u⟩

set_option maxRecDepth 100000 in
set_option maxHeartbeats 2000000 in
theorem rdec_any (c : Cf) (f : Ft) (w : World) : Calls Tryd.prog 74 #[.agg c.arr, .agg f.arr] w fun e w' => e = .returned (.tuple #[.int .i64 (dec c f).1, .int .i64 (dec c f).2]) ∧ Kept w w' := by
  obtain ⟨W, hW, hI⟩ := In.new w 84 c f
  have HW := Lib.hid hW
  have HI := Lib.hid hI
  have HK := Lib.hid hI.kept
  obtain ⟨z, hz⟩ : ∃ z, ready c f = z := ⟨_, rfl⟩
  obtain ⟨m, hm⟩ : ∃ m, Th.may f.have_ c.tokens = m := ⟨_, rfl⟩
  obtain ⟨n, hn⟩ : ∃ n, Bu.enough f.due z c.least = n := ⟨_, rfl⟩
  have q1 : ∀ u, Calls Tryd.prog 94 #[.agg c.arr, .agg f.arr] u fun e w' => e = .returned (.int .i64 z) ∧ Kept u w' := fun u => by rw [← hz]; exact rready_any c f u
  have C3 := Lib.hid (show ∀ u, Calls Tryd.prog 93 #[.int .i64 f.have_, .int .i64 c.tokens] u fun e w' => e = .returned (.bool m) ∧ u = w' from fun u => by rw [← hm]; exact Th.rmay_any _ _ u)
  have q4 : ∀ u, Calls Tryd.prog 40 #[.int .i64 f.due, .int .i64 z, .int .i64 c.least] u fun e w' => e = .returned (.bool n) ∧ u = w' := fun u => by rw [← hn]; exact Bu.renough_any _ _ _ u
  have Q1 := quiet_at (Kept.refl W) (fun x hx => q1 x)
  have Q4 := quiet_at (Kept.refl W) (fun x hx => kept_as q4 x)
  have C1 := Lib.hid q1
  have HZ := Lib.hid hz
  have HM := Lib.hid hm
  have HN := Lib.hid (show Bu.enough f.due (ready c f) c.least = n by rw [hz]; exact hn)
  have lc := loadc_regrown hI.bc
  have lf := loadf_regrown hI.bf
  have x0 : W.cell? ⟨w.heap.size + 1, 0, none⟩ = some (.int .i64 f.code) := hI.atf 0
  have x1 : W.cell? ⟨w.heap.size + 1, 1, none⟩ = some (.int .i64 f.att) := hI.atf 1
  have x2 : W.cell? ⟨w.heap.size + 1, 2, none⟩ = some (.bool f.com) := hI.atf 2
  have x3 : W.cell? ⟨w.heap.size + 1, 3, none⟩ = some (.int .i64 f.push) := hI.atf 3
  have x4 : W.cell? ⟨w.heap.size + 1, 4, none⟩ = some (.int .i64 f.have_) := hI.atf 4
  have x6 : W.cell? ⟨w.heap.size + 1, 6, none⟩ = some (.int .i64 f.due) := hI.atf 6
  have y4 : W.cell? ⟨w.heap.size, 4, none⟩ = some (.int .i64 c.least) := hI.atc 4
  have y8 : W.cell? ⟨w.heap.size, 8, none⟩ = some (.int .i64 c.attempts) := hI.atc 8
  have y12 : W.cell? ⟨w.heap.size, 12, none⟩ = some (.int .i64 c.tokens) := hI.atc 12
  have Z4 := cell_regrown y4
  have Z6 := cell_regrown x6
  clear hW hz hm hn q1 q4 hI
  go_enter Tryd.func74, Tryd.ntmps74
  go_upto_region 1 with fail
  rw [HW.out]
  by_cases hg : (f.code == 14 || f.code == 8) = false
  · have HE := Lib.hid (dec_bad (c := c) hg)
    obtain ⟨b1, b2⟩ : (f.code != 14) = true ∧ (f.code != 8) = true := by simpa [bne, Bool.or_eq_false_iff] using hg
    clear hg
    go_wp2_with fail
    go_ret2
    exact ⟨ret_dec HE.out, HK.out⟩
  have HG := Lib.hid (show (f.code == 14 || f.code == 8) = true from (Bool.eq_false_or_eq_true _).resolve_right hg)
  have hw : (f.code != 14) = false ∨ ((f.code != 14) = true ∧ (f.code != 8) = false) := by
    have h := HG.out
    by_cases h14 : f.code = 14
    · exact .inl (by simp [h14])
    · exact .inr ⟨by simp [h14], by simpa [h14] using h⟩
  clear hg
  rcases hw with b1 | ⟨b1, b2⟩
  all_goals (
    rcases Bool.eq_false_or_eq_true f.com with h2 | h2
    · have HE := Lib.hid (dec_taken (c := c) HG.out h2)
      go_wp2_with fail
      go_ret2
      exact ⟨ret_dec HE.out, HK.out⟩
    by_cases h3 : c.attempts ≤ f.att
    · have HE := Lib.hid (dec_spent (c := c) HG.out h2 h3)
      go_wp2_with fail
      go_ret2
      exact ⟨ret_dec HE.out, HK.out⟩
    by_cases h4 : f.push = -1
    · have HE := Lib.hid (dec_push (c := c) HG.out h2 h3 h4)
      have h4b : (f.push == -1) = true := by simpa using h4
      clear h4
      go_wp2_with fail
      go_ret2
      exact ⟨ret_dec HE.out, HK.out⟩
    have H4 := Lib.hid h4
    have h4b : (f.push == -1) = false := by simpa using h4
    clear h4
    cases m
    · have HE := Lib.hid (dec_thr (c := c) HG.out h2 h3 H4.out HM.out)
      go_wp2_with (first | (go_at_call 93; refine (C3.out _).mono ?_; rintro e w' ⟨rfl, rfl⟩))
      go_ret2
      exact ⟨ret_dec HE.out, HK.out⟩
    go_upto_region 11 with (go_at_call 93; refine (C3.out _).mono ?_; rintro e w' ⟨rfl, rfl⟩)
    refine wp_region_quiet_below (by kernel_rfl) (by kernel_rfl) ?_
    repeat (first
      | (go_big_quiet_want; refine quiet_row 24 (.tmp 2) rfl w.heap.size rfl c.arr lc.out ?_; simp only [Act.put, List.setIfInBounds_toArray, List.set_cons_succ, List.set_cons_zero]; go_big_quiet_on)
      | (go_big_quiet_want; refine quiet_row 84 (.tmp 3) rfl (w.heap.size + 1) rfl f.arr lf.out ?_; simp only [Act.put, List.setIfInBounds_toArray, List.set_cons_succ, List.set_cons_zero]; go_big_quiet_on)
      | go_big_quiet_step (first | (with_reducible exact Q1.out _) | (with_reducible exact Q4.out _)))
    refine wpQuiet_nil ?_
    intro _ hw'
    obtain ⟨⟨dq, osq⟩, hw''⟩ := hw'
    subst hw''
    have hJ := HI.out.go (below_regrown W dq osq)
    obtain ⟨V, hV⟩ : ∃ V, grow (redrawn W dq) osq = V := ⟨_, rfl⟩
    rw [hV] at hJ ⊢
    clear hV x0 x1 x2 x3 x4 x6 y4 y8 y12 lc lf Q1 Q4 Z4 Z6
    have HK2 := Lib.hid hJ.kept
    cases n
    · have HE := Lib.hid (dec_late (c := c) HG.out h2 (by omega) H4.out HM.out HN.out)
      go_wp2_with fail
      go_ret2
      exact ⟨ret_dec HE.out, HK2.out⟩
    · have HE := Lib.hid (show dec c f = (0, z) by rw [← HZ.out]; exact dec_again (c := c) HG.out h2 (by omega) H4.out HM.out HN.out)
      go_wp2_with (first
        | (go_at_call 94; refine (C1.out _).mono ?_; rintro e u1 ⟨rfl, hk1⟩)
        | (refine load_w 24 (.tmp 2) rfl w.heap.size rfl rfl c.arr 14 hJ.bc Tryd.underlying24 rfl info_cf ?_)
        | (refine load_w 84 (.tmp 3) rfl (w.heap.size + 1) rfl rfl f.arr 8 hJ.bf Tryd.underlying84 rfl info_rft ?_))
      go_ret2
      exact ⟨ret_dec HE.out, HK2.out.trans hk1⟩)


theorem hops_int (n : Int) : ((hops n : Nat) : Int) = max 0 (min n 16) := by unfold hops; omega



end Go.Proofs.YtncdiggejofbbaaDoor.Po
