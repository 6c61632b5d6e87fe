/- Package owner, and the document's own answers for it: an owner as a value; roots, when it ends, whether it must stop. -/
import Derived.Test.YtplkhinjlgmilaaClT
import Derived.Test.YtplkhinjlgmilaaLs
import Derived.Test.YtplkhinjlgmilaaBlk
import Derived.Test.YtplkhinjlgmilaaBx
import Derived.Test.YtplkhinjlgmilaaLe
import Derived.Test.YtplkhinjlgmilaaWr
namespace Go.Proofs.Ytplkhinjlgmilaa.Ow
open Go.RowKit Go.Sort St Blk
open Go.Proofs.Ytplkhinjlgmilaa.Cl
open Go.Proofs.Ytplkhinjlgmilaa.Ls
open Go.Proofs.Ytplkhinjlgmilaa.Id (quiet_at boxed1)
open Go.Proofs.Ytplkhinjlgmilaa.Ad (load_w)
set_option linter.unusedVariables false

/-- an owner, but for its calls -/
structure Ow where
  (kn ki ks ka rn ri rs pn pi ps pa fr hp dl un pr pc dn : Int)
def Ow.arr (o : Ow) (q : Option Addr) (n c : Nat) : Array Value :=
  #[.int .i64 o.kn, .int .i64 o.ki, .int .i64 o.ks, .int .i64 o.ka, .int .i64 o.rn, .int .i64 o.ri, .int .i64 o.rs, .int .i64 o.pn, .int .i64 o.pi, .int .i64 o.ps, .int .i64 o.pa, .int .i64 o.fr, .int .i64 o.hp, .int .i64 o.dl, .int .i64 o.un, .int .i64 o.pr, .int .i64 o.pc, .int .i64 o.dn, .slice q n c]
def zero : Ow := ⟨0, 0, 0, 0, 0, 0, 0, 0, 0, 0, 0, 0, 0, 0, 0, 0, 0, 0⟩
/-- v reads as these calls -/
abbrev Cls (W : World) (v : Value) (K : List Cl) : Prop := Ls 13 encC W v K
def until' (o : Ow) : Int := if o.ka = 0 then 1125899906842624 else o.un
def endsO (o : Ow) : Int := Le.ends o.dl (until' o)
def overO (o : Ow) (n : Int) : Int := Le.over n o.dl (until' o)
theorem until_root {o : Ow} (h : o.ka = 0) : until' o = 1125899906842624 := by unfold until'; rw [if_pos h]
theorem until_not {o : Ow} (h : ¬ o.ka = 0) : until' o = o.un := by unfold until'; rw [if_neg h]
theorem ends_root {o : Ow} (h : o.ka = 0) : endsO o = Tk.clamp o.dl := by
  unfold endsO Le.ends
  rw [until_root h, Tk.clamp_id 1125899906842624 (by omega) (by omega)]
  have := Tk.clamp_hi o.dl
  omega
theorem ends_not {o : Ow} (h : ¬ o.ka = 0) : endsO o = Le.ends o.dl o.un := by unfold endsO; rw [until_not h]
theorem info_ow : (Try.prog.info? 34).map (·.size) = some 19 := by kernel_rfl
theorem info_row : (Try.prog.info? 28).map (·.size) = some 19 := by kernel_rfl

set_option maxRecDepth 100000 in
set_option maxHeartbeats 1000000 in
theorem isroot_any (o : Ow) (q : Option Addr) (n c : Nat) (w : World) : Calls Try.prog 29 #[.agg (o.arr q n c)] w fun e w' => e = .returned (.bool (o.ka == 0)) ∧ Kept w w' := by
  obtain ⟨x0, x1, x2, x3, x4, x5, x6, x7, x8, x9, x10, x11, x12, x13, x14, x15, x16, x17⟩ := o
  simp only [Ow.arr]
  go_enter Try.func29, Try.ntmps29
  go_wp2_with fail
  go_ret
  exact ⟨rfl, Kept.one _ _⟩

set_option maxRecDepth 100000 in
set_option maxHeartbeats 1000000 in
theorem until_any (o : Ow) (q : Option Addr) (n c : Nat) (w : World) : Calls Try.prog 36 #[.agg (o.arr q n c)] w fun e w' => e = .returned (.int .i64 (until' o)) ∧ Kept w w' := by
  have C := Lib.hid (isroot_any o q n c)
  obtain ⟨z, hz⟩ : ∃ z, until' o = z := ⟨_, rfl⟩
  obtain ⟨A, hA⟩ : ∃ A, o.arr q n c = A := ⟨_, rfl⟩
  have c14 : A[14]? = some (.int .i64 o.un) := by rw [← hA]; rfl
  have hs : A.size = 19 := by rw [← hA]; rfl
  rw [hz, hA]
  rw [hA] at C
  clear hA
  obtain ⟨W, hW⟩ : ∃ W, w.alloc (.cells A 34) = W := ⟨_, rfl⟩
  have HB := Lib.hid (show Bl w W [(A, 34)] from hW ▸ Bl.one w A _)
  have HW := Lib.hid hW
  by_cases h : o.ka = 0
  · have HZ := Lib.hid ((until_root h).symm.trans hz)
    rw [show (o.ka == 0) = true from beq_iff_eq.2 h] at C
    clear hz h hW c14
    go_enter Try.func36, Try.ntmps36
    go_upto_region 1 with fail
    rw [HW.out]
    go_wp2_with (first
      | (refine load_w 34 (.tmp 1) rfl w.heap.size rfl rfl A 19 (HB.out.blk 0 rfl) Try.underlying34 hs info_ow ?_)
      | (go_at_call 29; refine (C.out _).mono ?_; rintro e w1 ⟨rfl, k1⟩))
    go_ret
    exact ⟨ret_int HZ.out, HB.out.kept.trans k1⟩
  · have HZ := Lib.hid ((until_not h).symm.trans hz)
    rw [show (o.ka == 0) = false from beq_eq_false_iff_ne.2 h] at C
    clear hz h hW
    go_enter Try.func36, Try.ntmps36
    go_upto_region 1 with fail
    rw [HW.out]
    go_wp2_with (first
      | (refine load_w 34 (.tmp 1) rfl w.heap.size rfl rfl A 19 (HB.out.blk 0 rfl) Try.underlying34 hs info_ow ?_)
      | (go_at_call 29; refine (C.out _).mono ?_; rintro e w1 ⟨rfl, k1⟩; have hc : w1.cell? ⟨w.heap.size, 14, none⟩ = some (.int .i64 o.un) := ((HB.out.go k1).cell 0 14 rfl).trans c14))
    go_ret
    exact ⟨ret_int HZ.out, HB.out.kept.trans k1⟩

theorem loadA_regrown {W : World} {b : Nat} {A : Array Value} {t : TypeId} {fs} (hb : W.heap[b]? = some (.cells A t (0, 0))) (hu : Try.prog.underlying t = some (.struct fs)) (hi : (Try.prog.info? t).map (·.size) = some A.size) :
    Hid (∀ w, (∃ p : Regrown, w = grow (redrawn W p.d) p.os) → (loadVar t ⟨b, 0, none⟩).run Try.prog w = .ok (.agg A) w) :=
  fun w ⟨p, hp⟩ => by subst hp; exact run_loadVar_row _ b _ _ A (0, 0) _ (Ad.kept_blk (below_regrown W p.d p.os) hb) hu rfl hi

set_option maxRecDepth 100000 in
set_option maxHeartbeats 1000000 in
theorem ends_any (o : Ow) (q : Option Addr) (n c : Nat) (w : World) : Calls Try.prog 11 #[.agg (o.arr q n c)] w fun e w' => e = .returned (.int .i64 (endsO o)) ∧ Kept w w' := by
  have C1 := until_any o q n c
  obtain ⟨y, hy⟩ : ∃ y, until' o = y := ⟨_, rfl⟩
  obtain ⟨z, hz⟩ : ∃ z, endsO o = z := ⟨_, rfl⟩
  have c2 : ∀ u, Calls Try.prog 37 #[.int .i64 o.dl, .int .i64 y] u fun e w' => e = .returned (.int .i64 z) ∧ Kept u w' := fun u => by
    rw [← hz, ← hy]; exact (Le.ends_any _ _ u).mono fun e w' h => ⟨h.1, h.2 ▸ Kept.refl _⟩
  obtain ⟨A, hA⟩ : ∃ A, o.arr q n c = A := ⟨_, rfl⟩
  have c13 : A[13]? = some (.int .i64 o.dl) := by rw [← hA]; rfl
  have hs : A.size = 19 := by rw [← hA]; rfl
  rw [hz, hA]
  rw [hA, hy] at C1
  clear hA hy hz
  obtain ⟨W, hW⟩ : ∃ W, w.alloc (.cells A 34) = W := ⟨_, rfl⟩
  have hB : Bl w W [(A, 34)] := hW ▸ Bl.one w A _
  have HB := Lib.hid hB
  have HW := Lib.hid hW
  have hc : W.cell? ⟨w.heap.size, 13, none⟩ = some (.int .i64 o.dl) := (hB.cell 0 13 rfl).trans c13
  have lo := loadA_regrown (hB.blk 0 rfl) Try.underlying34 (by rw [hs]; exact info_ow)
  have l13 := Ad.loadi_regrown hc
  have Q1 := quiet_at (Kept.refl W) (fun x _ => C1 x)
  have Q2 := quiet_at (Kept.refl W) (fun x _ => c2 x)
  clear C1 c2 c13 hB hW
  go_enter Try.func11, Try.ntmps11
  go_upto_region 1 with fail
  rw [HW.out]
  refine wp_region_quiet_below (by kernel_rfl) (by kernel_rfl) ?_
  repeat (first
    | (go_big_quiet_want; refine Ad.quiet_load 3 (.tmp 3) rfl ⟨w.heap.size, 13, none⟩ rfl (.int .i64 o.dl) l13.out ?_; simp only [Act.put, List.setIfInBounds_toArray, List.set_cons_succ, List.set_cons_zero]; go_big_quiet_on)
    | (go_big_quiet_want; refine Ad.quiet_row 34 (.tmp 1) rfl w.heap.size rfl A lo.out ?_; simp only [Act.put, List.setIfInBounds_toArray, List.set_cons_succ, List.set_cons_zero]; go_big_quiet_on)
    | go_big_quiet_step (first | (with_reducible exact Q1.out _) | (with_reducible exact Q2.out _)))
  refine wpQuiet_nil ?_
  intro _ hw'
  obtain ⟨⟨dq, osq⟩, hw''⟩ := hw'
  subst hw''
  go_wp2_with fail
  go_ret
  exact ⟨rfl, HB.out.kept.trans (below_regrown W dq osq)⟩

set_option maxRecDepth 100000 in
set_option maxHeartbeats 1000000 in
theorem over_any (o : Ow) (q : Option Addr) (n c : Nat) (t : Int) (w : World) : Calls Try.prog 10 #[.agg (o.arr q n c), .int .i64 t] w fun e w' => e = .returned (.tuple #[.int .i64 (overO o t), .bool (overO o t != 0)]) ∧ Kept w w' := by
  have C1 := until_any o q n c
  obtain ⟨y, hy⟩ : ∃ y, until' o = y := ⟨_, rfl⟩
  obtain ⟨z, hz⟩ : ∃ z, overO o t = z := ⟨_, rfl⟩
  obtain ⟨g, hg⟩ : ∃ g, (overO o t != 0) = g := ⟨_, rfl⟩
  have c2 : ∀ u, Calls Try.prog 35 #[.int .i64 t, .int .i64 o.dl, .int .i64 y] u fun e w' => e = .returned (.tuple #[.int .i64 z, .bool g]) ∧ Kept u w' := fun u => by
    rw [← hg, ← hz, ← hy]; exact (Le.over_any _ _ _ u).mono fun e w' h => ⟨h.1, h.2 ▸ Kept.refl _⟩
  obtain ⟨A, hA⟩ : ∃ A, o.arr q n c = A := ⟨_, rfl⟩
  have c13 : A[13]? = some (.int .i64 o.dl) := by rw [← hA]; rfl
  have hs : A.size = 19 := by rw [← hA]; rfl
  rw [hg, hz, hA]
  rw [hA, hy] at C1
  clear hA hy hz hg
  obtain ⟨W, hW⟩ : ∃ W, w.alloc (.cells A 34) = W := ⟨_, rfl⟩
  have hB : Bl w W [(A, 34)] := hW ▸ Bl.one w A _
  have HB := Lib.hid hB
  have HW := Lib.hid hW
  have hc : W.cell? ⟨w.heap.size, 13, none⟩ = some (.int .i64 o.dl) := (hB.cell 0 13 rfl).trans c13
  have lo := loadA_regrown (hB.blk 0 rfl) Try.underlying34 (by rw [hs]; exact info_ow)
  have l13 := Ad.loadi_regrown hc
  have Q1 := quiet_at (Kept.refl W) (fun x _ => C1 x)
  have Q2 := quiet_at (Kept.refl W) (fun x _ => c2 x)
  clear C1 c2 c13 hB hW
  go_enter Try.func10, Try.ntmps10
  go_upto_region 1 with fail
  rw [HW.out]
  refine wp_region_quiet_below (by kernel_rfl) (by kernel_rfl) ?_
  repeat (first
    | (go_big_quiet_want; refine Ad.quiet_load 3 (.tmp 7) rfl ⟨w.heap.size, 13, none⟩ rfl (.int .i64 o.dl) l13.out ?_; simp only [Act.put, List.setIfInBounds_toArray, List.set_cons_succ, List.set_cons_zero]; go_big_quiet_on)
    | (go_big_quiet_want; refine Ad.quiet_row 34 (.tmp 2) rfl w.heap.size rfl A lo.out ?_; simp only [Act.put, List.setIfInBounds_toArray, List.set_cons_succ, List.set_cons_zero]; go_big_quiet_on)
    | go_big_quiet_step (first | (with_reducible exact Q1.out _) | (with_reducible exact Q2.out _)))
  refine wpQuiet_nil ?_
  intro _ hw'
  obtain ⟨⟨dq, osq⟩, hw''⟩ := hw'
  subst hw''
  go_wp2_with fail
  go_ret2
  exact ⟨rfl, HB.out.kept.trans (below_regrown W dq osq)⟩

/-! the document's -/
set_option maxRecDepth 100000 in
set_option maxHeartbeats 1000000 in
theorem rends_any (o : Ow) (q : Option Addr) (n c : Nat) (w : World) : Calls Try.prog 12 #[.agg (o.arr q n c)] w fun e w' => e = .returned (.int .i64 (endsO o)) ∧ Kept w w' := by
  obtain ⟨z, hz⟩ : ∃ z, endsO o = z := ⟨_, rfl⟩
  obtain ⟨A, hA⟩ : ∃ A, o.arr q n c = A := ⟨_, rfl⟩
  have c3 : A[3]? = some (.int .i64 o.ka) := by rw [← hA]; rfl
  have c13 : A[13]? = some (.int .i64 o.dl) := by rw [← hA]; rfl
  have c14 : A[14]? = some (.int .i64 o.un) := by rw [← hA]; rfl
  rw [hz, hA]
  clear hA
  obtain ⟨W, hW⟩ : ∃ W, w.alloc (.cells A 28) = W := ⟨_, rfl⟩
  have hB : Bl w W [(A, 28)] := hW ▸ Bl.one w A _
  have h3 : W.cell? ⟨w.heap.size, 3, none⟩ = some (.int .i64 o.ka) := (hB.cell 0 3 rfl).trans c3
  have h13 : W.cell? ⟨w.heap.size, 13, none⟩ = some (.int .i64 o.dl) := (hB.cell 0 13 rfl).trans c13
  have h14 : W.cell? ⟨w.heap.size, 14, none⟩ = some (.int .i64 o.un) := (hB.cell 0 14 rfl).trans c14
  have HB := Lib.hid hB
  have HW := Lib.hid hW
  clear c3 c13 c14 hB hW
  by_cases h : o.ka = 0
  · have C := Lib.hid (show ∀ u, Calls Try.prog 34 #[.int .i64 o.dl] u fun e w' => e = .returned (.int .i64 z) ∧ u = w' from fun u => by rw [← hz, ends_root h]; exact Tk.rclamp_any _ u)
    rw [h] at h3
    clear hz h
    go_enter Try.func12, Try.ntmps12
    go_upto_region 1 with fail
    rw [HW.out]
    go_wp2_with (go_at_call 34; refine (C.out _).mono ?_; rintro e w1 ⟨rfl, rfl⟩)
    go_ret
    exact ⟨rfl, HB.out.kept⟩
  · have C := Lib.hid (show ∀ u, Calls Try.prog 38 #[.int .i64 o.dl, .int .i64 o.un] u fun e w' => e = .returned (.int .i64 z) ∧ u = w' from fun u => by rw [← hz, ends_not h]; exact Le.rends_any _ _ u)
    have hb : (o.ka == 0) = false := beq_eq_false_iff_ne.2 h
    clear hz h
    go_enter Try.func12, Try.ntmps12
    go_upto_region 1 with fail
    rw [HW.out]
    go_wp2_with (go_at_call 38; refine (C.out _).mono ?_; rintro e w1 ⟨rfl, rfl⟩)
    go_ret
    exact ⟨rfl, HB.out.kept⟩

set_option maxRecDepth 100000 in
set_option maxHeartbeats 1000000 in
theorem rover_any (o : Ow) (q : Option Addr) (n c : Nat) (t : Int) (w : World) : Calls Try.prog 13 #[.agg (o.arr q n c), .int .i64 t] w fun e w' => e = .returned (.int .i64 (overO o t)) ∧ Kept w w' := by
  obtain ⟨z, hz⟩ : ∃ z, overO o t = z := ⟨_, rfl⟩
  obtain ⟨A, hA⟩ : ∃ A, o.arr q n c = A := ⟨_, rfl⟩
  have c3 : A[3]? = some (.int .i64 o.ka) := by rw [← hA]; rfl
  have c13 : A[13]? = some (.int .i64 o.dl) := by rw [← hA]; rfl
  have c14 : A[14]? = some (.int .i64 o.un) := by rw [← hA]; rfl
  rw [hz, hA]
  clear hA
  obtain ⟨W, hW⟩ : ∃ W, w.alloc (.cells A 28) = W := ⟨_, rfl⟩
  have hB : Bl w W [(A, 28)] := hW ▸ Bl.one w A _
  have h3 : W.cell? ⟨w.heap.size, 3, none⟩ = some (.int .i64 o.ka) := (hB.cell 0 3 rfl).trans c3
  have h13 : W.cell? ⟨w.heap.size, 13, none⟩ = some (.int .i64 o.dl) := (hB.cell 0 13 rfl).trans c13
  have h14 : W.cell? ⟨w.heap.size, 14, none⟩ = some (.int .i64 o.un) := (hB.cell 0 14 rfl).trans c14
  have HB := Lib.hid hB
  have HW := Lib.hid hW
  clear c3 c13 c14 hB hW
  by_cases h : o.ka = 0
  · have C := Lib.hid (show ∀ u, Calls Try.prog 39 #[.int .i64 t, .int .i64 o.dl, .int .i64 1125899906842624] u fun e w' => e = .returned (.int .i64 z) ∧ u = w' from fun u => by rw [← hz]; unfold overO; rw [until_root h]; exact Le.rover_any _ _ _ u)
    rw [h] at h3
    clear hz h
    go_enter Try.func13, Try.ntmps13
    go_upto_region 1 with fail
    rw [HW.out]
    go_wp2_with (go_at_call 39; refine (C.out _).mono ?_; rintro e w1 ⟨rfl, rfl⟩)
    go_ret
    exact ⟨rfl, HB.out.kept⟩
  · have C := Lib.hid (show ∀ u, Calls Try.prog 39 #[.int .i64 t, .int .i64 o.dl, .int .i64 o.un] u fun e w' => e = .returned (.int .i64 z) ∧ u = w' from fun u => by rw [← hz]; unfold overO; rw [until_not h]; exact Le.rover_any _ _ _ u)
    have hb : (o.ka == 0) = false := beq_eq_false_iff_ne.2 h
    clear hz h
    go_enter Try.func13, Try.ntmps13
    go_upto_region 1 with fail
    rw [HW.out]
    go_wp2_with (go_at_call 39; refine (C.out _).mono ?_; rintro e w1 ⟨rfl, rfl⟩)
    go_ret
    exact ⟨rfl, HB.out.kept⟩

end Go.Proofs.Ytplkhinjlgmilaa.Ow
