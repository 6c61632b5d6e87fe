/- Package policy, and the document's own answers for it: what is known of an attempt that failed, and what it comes to. -/
import Derived.Test.YtpicjcophjekpaaCf
import Derived.Test.YtpicjcophjekpaaTk3
import Derived.Test.YtpicjcophjekpaaBuE
import Derived.Test.YtpicjcophjekpaaBo
import Derived.Test.YtpicjcophjekpaaTh
import Derived.Test.YtpicjcophjekpaaCdG
namespace Go.Proofs.Ytpicjcophjekpaa.Po
open Go.RowKit Go.Sort St Ad
open Go.Proofs.Ytpicjcophjekpaa.Id (quiet_at boxed1)
set_option linter.unusedVariables false

/-- what is known of an attempt that failed -/
structure Ft where
  (code att : Int) (com : Bool) (push have_ now due jit : Int)
def Ft.arr (f : Ft) : Array Value :=
  #[.int .i64 f.code, .int .i64 f.att, .bool f.com, .int .i64 f.push, .int .i64 f.have_, .int .i64 f.now, .int .i64 f.due, .int .i64 f.jit]
def Ft.Lim (f : Ft) : Prop := Wd f.code ∧ Wd f.att ∧ Wd f.push ∧ Wd f.have_ ∧ Wd f.now ∧ Wd f.due ∧ Wd f.jit
/-- how long one waits -/
def wait (c : Cf) (f : Ft) : Int := if 0 ≤ f.push then f.push else Bo.late (Bo.step c.base c.most f.att) f.jit
/-- when it may be tried again first -/
def ready (c : Cf) (f : Ft) : Int := Tk.add f.now (wait c f)
/-- why it is tried again, or not, and when -/
def dec (c : Cf) (f : Ft) : Int × Int :=
  if (f.code == 14 || f.code == 8) = false then (1, 0) else if f.com = true then (2, 0) else if c.attempts ≤ f.att then (3, 0) else if f.push = -1 then (4, 0)
  else if Th.may f.have_ c.tokens = false then (5, 0) else if Bu.enough f.due (ready c f) c.least = false then (6, 0) else (0, ready c f)
/-- so many attempts of each there may be -/
def below (c : Cf) : Int := Tk.mul c.fan c.attempts
/-- a power, and the sum of so many -/
def pow (b : Int) : Nat → Int
  | 0 => 1
  | k + 1 => Tk.mul (pow b k) b
def sum (b : Int) : Nat → Int
  | 0 => 0
  | k + 1 => Tk.add (sum b k) (pow b (k + 1))
def hops (n : Int) : Nat := (max 0 (min n 16)).toNat
def most (c : Cf) : Int := sum (below c) (hops c.hops)

theorem wait_push {c : Cf} {f : Ft} (h : 0 ≤ f.push) : ready c f = Tk.add f.now f.push := by unfold ready wait; rw [if_pos h]
theorem wait_own {c : Cf} {f : Ft} (h : ¬ 0 ≤ f.push) : ready c f = Tk.add f.now (Bo.late (Bo.step c.base c.most f.att) f.jit) := by unfold ready wait; rw [if_neg h]

theorem info_ft : (Try.prog.info? 55).map (·.size) = some 8 := by kernel_rfl
theorem info_rft : (Try.prog.info? 35).map (·.size) = some 8 := by kernel_rfl

/-- a configuration and facts in blocks of a call's own -/
structure In (w W : World) (t : TypeId) (c : Cf) (f : Ft) : Prop where
  kept : Kept w W
  bc : W.heap[w.heap.size]? = some (.cells c.arr 28 (0, 0))
  bf : W.heap[w.heap.size + 1]? = some (.cells f.arr t (0, 0))
section
variable {w W W' : World} {t : TypeId} {c : Cf} {f : Ft}
theorem In.go (h : In w W t c f) (k : Kept W W') : In w W' t c f := ⟨h.kept.trans k, kept_blk k h.bc, kept_blk k h.bf⟩
theorem In.new (w : World) (t : TypeId) (c : Cf) (f : Ft) : ∃ W, (w.alloc (.cells c.arr 28)).alloc (.cells f.arr t) = W ∧ In w W t c f := by
  refine ⟨_, rfl, Kept.more (Kept.one _ _) _, ?_, ?_⟩
  · exact kept_blk (Kept.one _ _) (blk_new w _)
  · have := blk_new (w.alloc (.cells c.arr 28)) (.cells f.arr t)
    rwa [show (w.alloc (.cells c.arr 28)).heap.size = w.heap.size + 1 by simp] at this
theorem In.atc (h : In w W t c f) (k : Nat) : W.cell? ⟨w.heap.size, k, none⟩ = c.arr[k]? := blk_cell h.bc k
theorem In.atf (h : In w W t c f) (k : Nat) : W.cell? ⟨w.heap.size + 1, k, none⟩ = f.arr[k]? := blk_cell h.bf k
end

set_option maxRecDepth 100000 in
set_option maxHeartbeats 1000000 in
theorem ready_any (c : Cf) (f : Ft) (hf : f.att ≤ 9223372036854775807) (w : World) : Calls Try.prog 39 #[.agg c.arr, .agg f.arr] w fun e w' => e = .returned (.int .i64 (ready c f)) ∧ Kept w w' := by
  obtain ⟨W, hW, hI⟩ := In.new w 55 c f
  have x1 : W.cell? ⟨w.heap.size + 1, 1, none⟩ = some (.int .i64 f.att) := hI.atf 1
  have x3 : W.cell? ⟨w.heap.size + 1, 3, none⟩ = some (.int .i64 f.push) := hI.atf 3
  have x5 : W.cell? ⟨w.heap.size + 1, 5, none⟩ = some (.int .i64 f.now) := hI.atf 5
  have x7 : W.cell? ⟨w.heap.size + 1, 7, none⟩ = some (.int .i64 f.jit) := hI.atf 7
  have y9 : W.cell? ⟨w.heap.size, 9, none⟩ = some (.int .i64 c.base) := hI.atc 9
  have y10 : W.cell? ⟨w.heap.size, 10, none⟩ = some (.int .i64 c.most) := hI.atc 10
  have HW := Lib.hid hW
  have HK := Lib.hid hI.kept
  obtain ⟨z, hz⟩ : ∃ z, ready c f = z := ⟨_, rfl⟩
  rw [hz]
  by_cases h : 0 ≤ f.push
  · have C1 := Lib.hid (show ∀ u, Calls Try.prog 30 #[.int .i64 f.now, .int .i64 f.push] u fun e w' => e = .returned (.int .i64 z) ∧ u = w' from fun u => by rw [← hz, wait_push h]; exact Tk.add_any _ _ u)
    clear hW hz hI
    go_enter Try.func39, Try.ntmps39
    go_upto_region 1 with fail
    rw [HW.out]
    go_wp2_with (go_at_call 30; refine (C1.out _).mono ?_; rintro e w' ⟨rfl, rfl⟩)
    go_ret
    exact ⟨rfl, HK.out⟩
  · obtain ⟨d, hd⟩ : ∃ d, Bo.late (Bo.step c.base c.most f.att) f.jit = d := ⟨_, rfl⟩
    have C1 := Lib.hid (show ∀ u, Calls Try.prog 30 #[.int .i64 f.now, .int .i64 d] u fun e w' => e = .returned (.int .i64 z) ∧ u = w' from fun u => by rw [← hz, wait_own h, hd]; exact Tk.add_any _ _ u)
    have C2 := Lib.hid (show ∀ u, Calls Try.prog 48 #[.int .i64 c.base, .int .i64 c.most, .int .i64 f.att, .int .i64 f.jit] u fun e w' => e = .returned (.int .i64 d) ∧ u = w' from fun u => by rw [← hd]; exact Bo.delay_any _ _ _ _ hf u)
    clear hW hz hI hd hf
    go_enter Try.func39, Try.ntmps39
    go_upto_region 1 with fail
    rw [HW.out]
    go_wp2_with fail
    go_quiet (first | (go_at_call 48; exact Calls.quiet_of_same ((C2.out _).mono fun _ _ h => ⟨h.1, h.2.symm⟩)) | (go_at_call 30; exact Calls.quiet_of_same ((C1.out _).mono fun _ _ h => ⟨h.1, h.2.symm⟩)))
    go_wp2_with fail
    go_ret
    exact ⟨rfl, HK.out.drewN _⟩

/-! the ways that a call goes -/
section
variable {c : Cf} {f : Ft}
theorem dec_bad (h : (f.code == 14 || f.code == 8) = false) : dec c f = (1, 0) := by unfold dec; rw [if_pos h]
theorem dec_taken (h : (f.code == 14 || f.code == 8) = true) (h2 : f.com = true) : dec c f = (2, 0) := by unfold dec; rw [if_neg (by rw [h]; decide), if_pos h2]
theorem dec_spent (h : (f.code == 14 || f.code == 8) = true) (h2 : f.com = false) (h3 : c.attempts ≤ f.att) : dec c f = (3, 0) := by unfold dec; rw [if_neg (by rw [h]; decide), if_neg (by rw [h2]; decide), if_pos h3]
theorem dec_push (h : (f.code == 14 || f.code == 8) = true) (h2 : f.com = false) (h3 : ¬ c.attempts ≤ f.att) (h4 : f.push = -1) : dec c f = (4, 0) := by unfold dec; rw [if_neg (by rw [h]; decide), if_neg (by rw [h2]; decide), if_neg h3, if_pos h4]
theorem dec_thr (h : (f.code == 14 || f.code == 8) = true) (h2 : f.com = false) (h3 : ¬ c.attempts ≤ f.att) (h4 : ¬ f.push = -1) (h5 : Th.may f.have_ c.tokens = false) : dec c f = (5, 0) := by unfold dec; rw [if_neg (by rw [h]; decide), if_neg (by rw [h2]; decide), if_neg h3, if_neg h4, if_pos h5]
theorem dec_late (h : (f.code == 14 || f.code == 8) = true) (h2 : f.com = false) (h3 : ¬ c.attempts ≤ f.att) (h4 : ¬ f.push = -1) (h5 : Th.may f.have_ c.tokens = true) (h6 : Bu.enough f.due (ready c f) c.least = false) : dec c f = (6, 0) := by unfold dec; rw [if_neg (by rw [h]; decide), if_neg (by rw [h2]; decide), if_neg h3, if_neg h4, if_neg (by rw [h5]; decide), if_pos h6]
theorem dec_again (h : (f.code == 14 || f.code == 8) = true) (h2 : f.com = false) (h3 : ¬ c.attempts ≤ f.att) (h4 : ¬ f.push = -1) (h5 : Th.may f.have_ c.tokens = true) (h6 : Bu.enough f.due (ready c f) c.least = true) : dec c f = (0, ready c f) := by unfold dec; rw [if_neg (by rw [h]; decide), if_neg (by rw [h2]; decide), if_neg h3, if_neg h4, if_neg (by rw [h5]; decide), if_neg (by rw [h6]; decide)]
end
theorem ret_dec {c : Cf} {f : Ft} {x y : Int} (h : dec c f = (x, y)) : Ending.returned (.tuple #[.int .i64 x, .int .i64 y]) = .returned (.tuple #[.int .i64 (dec c f).1, .int .i64 (dec c f).2]) := by rw [h]

set_option maxRecDepth 100000 in
set_option maxHeartbeats 1000000 in
theorem rready_any (c : Cf) (f : Ft) (w : World) : Calls Try.prog 46 #[.agg c.arr, .agg f.arr] w fun e w' => e = .returned (.int .i64 (ready c f)) ∧ Kept w w' := by
  obtain ⟨W, hW, hI⟩ := In.new w 35 c f
  have x1 : W.cell? ⟨w.heap.size + 1, 1, none⟩ = some (.int .i64 f.att) := hI.atf 1
  have x3 : W.cell? ⟨w.heap.size + 1, 3, none⟩ = some (.int .i64 f.push) := hI.atf 3
  have x5 : W.cell? ⟨w.heap.size + 1, 5, none⟩ = some (.int .i64 f.now) := hI.atf 5
  have x7 : W.cell? ⟨w.heap.size + 1, 7, none⟩ = some (.int .i64 f.jit) := hI.atf 7
  have y9 : W.cell? ⟨w.heap.size, 9, none⟩ = some (.int .i64 c.base) := hI.atc 9
  have y10 : W.cell? ⟨w.heap.size, 10, none⟩ = some (.int .i64 c.most) := hI.atc 10
  have HW := Lib.hid hW
  have HK := Lib.hid hI.kept
  obtain ⟨z, hz⟩ : ∃ z, ready c f = z := ⟨_, rfl⟩
  rw [hz]
  obtain ⟨d, hd⟩ : ∃ d, Bo.late (Bo.step c.base c.most f.att) f.jit = d := ⟨_, rfl⟩
  have C2 := Lib.hid (show ∀ u, Calls Try.prog 55 #[.int .i64 c.base, .int .i64 c.most, .int .i64 f.att, .int .i64 f.jit] u fun e w' => e = .returned (.int .i64 d) ∧ u = w' from fun u => by rw [← hd]; exact Bo.rdelay_any _ _ _ _ u)
  by_cases h : 0 ≤ f.push
  · have C1 := Lib.hid (show ∀ u, Calls Try.prog 18 #[.int .i64 f.now, .int .i64 f.push] u fun e w' => e = .returned (.int .i64 z) ∧ u = w' from fun u => by rw [← hz, wait_push h]; exact Tk.radd_any _ _ u)
    clear hW hz hI hd
    go_enter Try.func46, Try.ntmps46
    go_upto_region 1 with fail
    rw [HW.out]
    go_wp2_with (first | (go_at_call 55; refine (C2.out _).mono ?_; rintro e w' ⟨rfl, rfl⟩) | (go_at_call 18; refine (C1.out _).mono ?_; rintro e w' ⟨rfl, rfl⟩))
    go_ret
    exact ⟨rfl, HK.out⟩
  · have C1 := Lib.hid (show ∀ u, Calls Try.prog 18 #[.int .i64 f.now, .int .i64 d] u fun e w' => e = .returned (.int .i64 z) ∧ u = w' from fun u => by rw [← hz, wait_own h, hd]; exact Tk.radd_any _ _ u)
    clear hW hz hI hd
    go_enter Try.func46, Try.ntmps46
    go_upto_region 1 with fail
    rw [HW.out]
    go_wp2_with (first | (go_at_call 55; refine (C2.out _).mono ?_; rintro e w' ⟨rfl, rfl⟩) | (go_at_call 18; refine (C1.out _).mono ?_; rintro e w' ⟨rfl, rfl⟩))
    go_ret
    exact ⟨rfl, HK.out⟩

set_option maxRecDepth 100000 in
set_option maxHeartbeats 2000000 in
theorem dec_any (c : Cf) (f : Ft) (hf : f.att ≤ 9223372036854775807) (w : World) : Calls Try.prog 33 #[.agg c.arr, .agg f.arr] w fun e w' => e = .returned (.tuple #[.int .i64 (dec c f).1, .int .i64 (dec c f).2]) ∧ Kept w w' := by
  obtain ⟨W, hW, hI⟩ := In.new w 55 c f
  have HW := Lib.hid hW
  have HI := Lib.hid hI
  obtain ⟨z, hz⟩ : ∃ z, ready c f = z := ⟨_, rfl⟩
  obtain ⟨m, hm⟩ : ∃ m, Th.may f.have_ c.tokens = m := ⟨_, rfl⟩
  obtain ⟨n, hn⟩ : ∃ n, Bu.enough f.due z c.least = n := ⟨_, rfl⟩
  obtain ⟨g, hg⟩ : ∃ g, (f.code == 14 || f.code == 8) = g := ⟨_, rfl⟩
  have C1 := Lib.hid (show ∀ u, Calls Try.prog 39 #[.agg c.arr, .agg f.arr] u fun e w' => e = .returned (.int .i64 z) ∧ Kept u w' from fun u => by rw [← hz]; exact ready_any c f hf u)
  have C2 := Lib.hid (show ∀ u, Calls Try.prog 40 #[.int .i64 f.code] u fun e w' => e = .returned (.bool g) ∧ u = w' from fun u => by rw [← hg]; exact Cd.again_any _ u)
  have C3 := Lib.hid (show ∀ u, Calls Try.prog 41 #[.int .i64 f.have_, .int .i64 c.tokens] u fun e w' => e = .returned (.bool m) ∧ u = w' from fun u => by rw [← hm]; exact Th.may_any _ _ u)
  have C4 := Lib.hid (show ∀ u, Calls Try.prog 42 #[.int .i64 f.due, .int .i64 z, .int .i64 c.least] u fun e w' => e = .returned (.bool n) ∧ u = w' from fun u => by rw [← hn]; exact Bu.enough_any _ _ _ u)
  have HZ := Lib.hid hz
  have HM := Lib.hid hm
  have HN := Lib.hid (show Bu.enough f.due (ready c f) c.least = n by rw [hz]; exact hn)
  have HG := Lib.hid hg
  clear hW hz hm hn hg hf
  go_enter Try.func33, Try.ntmps33
  go_upto_region 1 with fail
  rw [HW.out]
  go_upto_region 2 with (first
    | (go_at_call 39; refine (C1.out _).mono ?_; rintro e u1 ⟨rfl, hk1⟩)
    | (refine load_w 28 (.tmp 2) rfl w.heap.size rfl rfl c.arr 14 hI.bc Try.underlying28 rfl info_cf ?_)
    | (refine load_w 55 (.tmp 3) rfl (w.heap.size + 1) rfl rfl f.arr 8 hI.bf Try.underlying55 rfl info_ft ?_))
  have hJ := HI.out.go hk1
  have HK := Lib.hid hJ.kept
  have x0 : u1.cell? ⟨w.heap.size + 1, 0, none⟩ = some (.int .i64 f.code) := hJ.atf 0
  have x1 : u1.cell? ⟨w.heap.size + 1, 1, none⟩ = some (.int .i64 f.att) := hJ.atf 1
  have x2 : u1.cell? ⟨w.heap.size + 1, 2, none⟩ = some (.bool f.com) := hJ.atf 2
  have x3 : u1.cell? ⟨w.heap.size + 1, 3, none⟩ = some (.int .i64 f.push) := hJ.atf 3
  have x4 : u1.cell? ⟨w.heap.size + 1, 4, none⟩ = some (.int .i64 f.have_) := hJ.atf 4
  have x6 : u1.cell? ⟨w.heap.size + 1, 6, none⟩ = some (.int .i64 f.due) := hJ.atf 6
  have y4 : u1.cell? ⟨w.heap.size, 4, none⟩ = some (.int .i64 c.least) := hJ.atc 4
  have y8 : u1.cell? ⟨w.heap.size, 8, none⟩ = some (.int .i64 c.attempts) := hJ.atc 8
  have y12 : u1.cell? ⟨w.heap.size, 12, none⟩ = some (.int .i64 c.tokens) := hJ.atc 12
  clear hk1 hI hJ
  cases g
  · have HE := Lib.hid (dec_bad (c := c) HG.out)
    go_wp2_with (go_at_call 40; refine (C2.out _).mono ?_; rintro e w' ⟨rfl, rfl⟩)
    go_ret2
    exact ⟨ret_dec HE.out, HK.out⟩
  rcases Bool.eq_false_or_eq_true f.com with h2 | h2
  · have HE := Lib.hid (dec_taken (c := c) HG.out h2)
    go_wp2_with (go_at_call 40; refine (C2.out _).mono ?_; rintro e w' ⟨rfl, rfl⟩)
    go_ret2
    exact ⟨ret_dec HE.out, HK.out⟩
  by_cases h3 : c.attempts ≤ f.att
  · have HE := Lib.hid (dec_spent (c := c) HG.out h2 h3)
    go_wp2_with (go_at_call 40; refine (C2.out _).mono ?_; rintro e w' ⟨rfl, rfl⟩)
    go_ret2
    exact ⟨ret_dec HE.out, HK.out⟩
  by_cases h4 : f.push = -1
  · have HE := Lib.hid (dec_push (c := c) HG.out h2 h3 h4)
    have h4b : (f.push == -1) = true := by simpa using h4
    clear h4
    go_wp2_with (go_at_call 40; refine (C2.out _).mono ?_; rintro e w' ⟨rfl, rfl⟩)
    go_ret2
    exact ⟨ret_dec HE.out, HK.out⟩
  have H4 := Lib.hid h4
  have h4b : (f.push == -1) = false := by simpa using h4
  clear h4
  cases m
  · have HE := Lib.hid (dec_thr (c := c) HG.out h2 h3 H4.out HM.out)
    go_wp2_with (first | (go_at_call 40; refine (C2.out _).mono ?_; rintro e w' ⟨rfl, rfl⟩) | (go_at_call 41; refine (C3.out _).mono ?_; rintro e w' ⟨rfl, rfl⟩))
    go_ret2
    exact ⟨ret_dec HE.out, HK.out⟩
  cases n
  · have HE := Lib.hid (dec_late (c := c) HG.out h2 h3 H4.out HM.out HN.out)
    go_wp2_with (first | (go_at_call 40; refine (C2.out _).mono ?_; rintro e w' ⟨rfl, rfl⟩) | (go_at_call 41; refine (C3.out _).mono ?_; rintro e w' ⟨rfl, rfl⟩) | (go_at_call 42; refine (C4.out _).mono ?_; rintro e w' ⟨rfl, rfl⟩))
    go_ret2
    exact ⟨ret_dec HE.out, HK.out⟩
  · have HE := Lib.hid (show dec c f = (0, z) by rw [← HZ.out]; exact dec_again (c := c) HG.out h2 h3 H4.out HM.out HN.out)
    go_wp2_with (first | (go_at_call 40; refine (C2.out _).mono ?_; rintro e w' ⟨rfl, rfl⟩) | (go_at_call 41; refine (C3.out _).mono ?_; rintro e w' ⟨rfl, rfl⟩) | (go_at_call 42; refine (C4.out _).mono ?_; rintro e w' ⟨rfl, rfl⟩))
    go_ret2
    exact ⟨ret_dec HE.out, HK.out⟩

end Go.Proofs.Ytpicjcophjekpaa.Po
