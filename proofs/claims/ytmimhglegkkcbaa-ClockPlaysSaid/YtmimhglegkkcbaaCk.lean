/- What clocks are in memory, the program's: their block, and their hands'; what each function answers, and leaves. -/
import Derived.Test.YtmimhglegkkcbaaFr
import Derived.Test.YtmimhglegkkcbaaTk
import Derived.Deep.QuietTactic
import Derived.BigQuiet
import Derived.StillTailTactics
import Derived.Deep.OwnRows
import Derived.Lib.MinMax
import Derived.LaidEqlPtr
import Derived.IntWalk
namespace Go.Proofs.Ytmimhglegkkcbaa.Ck
open Go.RowKit Go.Sort Tk Wh
open St (Kept blk_cell blk_free blk_lt blk_set)
set_option linter.unusedVariables false

def upd (f : Nat → Int) (i : Nat) (x : Int) : Nat → Int := fun k => if k = i then x else f k
theorem upd_at (f : Nat → Int) (i : Nat) (x : Int) : upd f i x i = x := if_pos rfl
theorem upd_ne (f : Nat → Int) {i k : Nat} (x : Int) (h : k ≠ i) : upd f i x k = f k := if_neg h

/-- what may be: times, skews, how many, how far apart -/
structure Fit (n : Nat) (real skew : Int) (A : Nat → Int) : Prop where
  r0 : 0 ≤ real
  r1 : real ≤ 1125899906842624
  s0 : 0 ≤ skew
  s1 : skew ≤ 1000
  n0 : 1 ≤ n
  n1 : n ≤ 64
  lo : ∀ i, i < n → -skew ≤ A i
  hi : ∀ i, i < n → A i ≤ skew

/-- CLOCKS in block B, their hands in block H -/
structure Clk (w : World) (B H n : Nat) (real skew : Int) (A D : Nat → Int) : Prop where
  blk : w.heap[B]? = some (.cells #[.int .i64 real, .int .i64 skew, .slice (some ⟨H, 0, none⟩) n n] 45 (0, 0))
  hand : ∃ xs, w.heap[H]? = some (.cells xs 50 (0, 0)) ∧ n * 2 ≤ xs.size ∧ ∀ i, i < n → xs[i * 2]? = some (.int .i64 (A i)) ∧ xs[i * 2 + 1]? = some (.int .i64 (D i))
  ne : B ≠ H
  fit : Fit n real skew A

/-- its blocks -/
def SC (B H : Nat) : Nat → Prop := fun k => k = B ∨ k = H

section
variable {w w' : World} {B H n : Nat} {real skew : Int} {A D : Nat → Int}
theorem Clk.fr {S : Nat → Prop} (h : Clk w B H n real skew A D) (f : Fr S w w') (ap : ∀ k, SC B H k → ¬ S k) : Clk w' B H n real skew A D := by
  obtain ⟨xs, h1, h2⟩ := h.hand
  exact ⟨(f.block B (blk_lt h.blk) (ap B (.inl rfl))).trans h.blk, ⟨xs, (f.block H (blk_lt h1) (ap H (.inr rfl))).trans h1, h2⟩, h.ne, h.fit⟩
theorem Clk.kept (h : Clk w B H n real skew A D) (k : Kept w w') : Clk w' B H n real skew A D := h.fr (S := fun _ => False) (Fr.kept k) (fun _ _ c => c)
theorem Clk.lt (h : Clk w B H n real skew A D) : ∀ k, SC B H k → k < w.heap.size := by
  obtain ⟨xs, h1, _⟩ := h.hand
  rintro k (rfl | rfl)
  · exact blk_lt h.blk
  · exact blk_lt h1
theorem Clk.c0 (h : Clk w B H n real skew A D) : w.cell? ⟨B, 0, none⟩ = some (.int .i64 real) := by rw [blk_cell h.blk]; rfl
theorem Clk.c1 (h : Clk w B H n real skew A D) : w.cell? ⟨B, 1, none⟩ = some (.int .i64 skew) := by rw [blk_cell h.blk]; rfl
theorem Clk.c2 (h : Clk w B H n real skew A D) : w.cell? ⟨B, 2, none⟩ = some (.slice (some ⟨H, 0, none⟩) n n) := by rw [blk_cell h.blk]; rfl
theorem Clk.at (h : Clk w B H n real skew A D) {i : Nat} (hi : i < n) : w.cell? ⟨H, i * 2, none⟩ = some (.int .i64 (A i)) ∧ w.cell? ⟨H, i * 2 + 1, none⟩ = some (.int .i64 (D i)) ∧ ∀ o, w.frozen? ⟨H, o, none⟩ = false := by
  obtain ⟨xs, h1, h2, h3⟩ := h.hand
  exact ⟨by rw [blk_cell h1]; exact (h3 i hi).1, by rw [blk_cell h1]; exact (h3 i hi).2, blk_free h1⟩
theorem Clk.setReal (h : Clk w B H n real skew A D) {r : Int} (h0 : 0 ≤ r) (h1 : r ≤ 1125899906842624) : Clk (w.setCell ⟨B, 0, none⟩ (.int .i64 r)) B H n r skew A D := by
  obtain ⟨xs, k1, k2⟩ := h.hand
  exact ⟨blk_set h.blk 0 _, ⟨xs, (Below.heap_setCell _ _ _ _ (fun c => h.ne c.symm)).trans k1, k2⟩, h.ne, ⟨h0, h1, h.fit.s0, h.fit.s1, h.fit.n0, h.fit.n1, h.fit.lo, h.fit.hi⟩⟩
theorem Clk.apart (h : Clk w B H n real skew A D) {i : Nat} (hi : i < n) {x : Int} (h0 : -skew ≤ x) (h1 : x ≤ skew) : Clk (w.setCell ⟨H, i * 2, none⟩ (.int .i64 x)) B H n real skew (upd A i x) D := by
  obtain ⟨xs, k1, k2, k3⟩ := h.hand
  refine ⟨(Below.heap_setCell _ _ _ _ h.ne).trans h.blk, ⟨_, blk_set k1 _ _, by simpa using k2, fun j hj => ?_⟩, h.ne, ⟨h.fit.r0, h.fit.r1, h.fit.s0, h.fit.s1, h.fit.n0, h.fit.n1, fun j hj => ?_, fun j hj => ?_⟩⟩
  · obtain ⟨q1, q2⟩ := k3 j hj
    rw [Array.getElem?_setIfInBounds, Array.getElem?_setIfInBounds, if_neg (by omega : ¬ i * 2 = j * 2 + 1)]
    refine ⟨?_, q2⟩
    by_cases e : j = i
    · subst e; rw [if_pos rfl, if_pos (by omega), upd_at]
    · rw [if_neg (by omega), upd_ne _ _ e]; exact q1
  · by_cases e : j = i
    · subst e; rw [upd_at]; exact h0
    · rw [upd_ne _ _ e]; exact h.fit.lo j hj
  · by_cases e : j = i
    · subst e; rw [upd_at]; exact h1
    · rw [upd_ne _ _ e]; exact h.fit.hi j hj
theorem Clk.said (h : Clk w B H n real skew A D) {i : Nat} (hi : i < n) (x : Int) : Clk (w.setCell ⟨H, i * 2 + 1, none⟩ (.int .i64 x)) B H n real skew A (upd D i x) := by
  obtain ⟨xs, k1, k2, k3⟩ := h.hand
  refine ⟨(Below.heap_setCell _ _ _ _ h.ne).trans h.blk, ⟨_, blk_set k1 _ _, by simpa using k2, fun j hj => ?_⟩, h.ne, h.fit⟩
  obtain ⟨q1, q2⟩ := k3 j hj
  rw [Array.getElem?_setIfInBounds, Array.getElem?_setIfInBounds, if_neg (by omega : ¬ i * 2 + 1 = j * 2)]
  refine ⟨q1, ?_⟩
  by_cases e : j = i
  · subst e; rw [if_pos rfl, if_pos (by omega), upd_at]
  · rw [if_neg (by omega), upd_ne _ _ e]; exact q2

/-- what a clock would say -/
def says (real : Int) (A D : Nat → Int) (i : Nat) : Int := max (D i) (clamp (real + A i))

set_option maxHeartbeats 400000 in
theorem has_in (h : Clk w B H n real skew A D) {i : Nat} (hi : i < n) : Calls Try.prog 18 #[.pointer (some ⟨B, 0, none⟩), .int .i64 (i : Int)] w fun e w' => e = .returned (.bool true) ∧ w = w' := by
  have c2 := h.c2
  have hn : (i : Int) < (n : Int) := by omega
  clear h
  go_enter Try.func18, Try.ntmps18
  go_wp2
  go_ret
  exact ⟨rfl, rfl⟩
set_option maxHeartbeats 400000 in
theorem has_out (h : Clk w B H n real skew A D) {x : Int} (hx : x < 0 ∨ (n : Int) ≤ x) : Calls Try.prog 18 #[.pointer (some ⟨B, 0, none⟩), .int .i64 x] w fun e w' => e = .returned (.bool false) ∧ w = w' := by
  have c2 := h.c2
  clear h
  rcases hx with hx | hx
  · go_enter Try.func18, Try.ntmps18
    go_wp2
    go_ret
    exact ⟨rfl, rfl⟩
  · have hx0 : 0 ≤ x := by omega
    have hd : decide (x < (n : Int)) = false := by simpa using hx
    clear hx
    go_enter Try.func18, Try.ntmps18
    go_wp2
    go_ret
    exact ⟨rfl, rfl⟩
set_option maxHeartbeats 400000 in
theorem real_any (h : Clk w B H n real skew A D) : Calls Try.prog 11 #[.pointer (some ⟨B, 0, none⟩)] w fun e w' => e = .returned (.int .i64 real) ∧ w = w' := by
  have c0 := h.c0
  clear h
  go_enter Try.func11, Try.ntmps11
  go_wp2
  go_ret
  exact ⟨rfl, rfl⟩
set_option maxHeartbeats 400000 in
theorem skew_any (h : Clk w B H n real skew A D) : Calls Try.prog 8 #[.pointer (some ⟨B, 0, none⟩)] w fun e w' => e = .returned (.int .i64 skew) ∧ w = w' := by
  have c1 := h.c1
  clear h
  go_enter Try.func8, Try.ntmps8
  go_wp2
  go_ret
  exact ⟨rfl, rfl⟩
/-- what Tick does -/
def ticked (w : World) (B H n : Nat) (real skew : Int) (A D : Nat → Int) (a : Int) : Ending → World → Prop := fun e w' => e = .returned (.tuple #[]) ∧ Clk w' B H n (add real a) skew A D ∧ Fr (SC B H) w w'
set_option maxHeartbeats 400000 in
theorem tick_any (h : Clk w B H n real skew A D) (a : Int) : Calls Try.prog 10 #[.pointer (some ⟨B, 0, none⟩), .int .i64 a] w (ticked w B H n real skew A D a) := by
  have c0 := h.c0
  have f0 := blk_free h.blk 0
  obtain ⟨r, hr⟩ : ∃ r, Hid (add real a = r) := ⟨_, rfl⟩
  have RC : ∀ w, Calls Try.prog 17 #[.int .i64 real, .int .i64 a] w fun e w' => e = .returned (.int .i64 r) ∧ w = w' := fun w => by have := add_any real a w; rw [hr.out] at this; exact this
  have RC := Lib.hid RC
  have HH := Lib.hid h
  clear h
  go_enter Try.func10, Try.ntmps10
  go_wp2_with (go_at_call 17; refine (RC.out _).mono ?_; rintro e w' ⟨rfl, rfl⟩)
  refine bodyPost_ret (results_none rfl _ _ _) rfl ?_
  refine ⟨rfl, ?_, (Fr.refl _ _).setCell (.inl (.inl rfl)) _⟩
  rw [hr.out]
  exact HH.out.setReal (by rw [← hr.out]; exact add_lo _ _) (by rw [← hr.out]; exact add_hi _ _)

/-- what Shift does -/
def shifted (w : World) (B H n : Nat) (real skew : Int) (A D : Nat → Int) (i : Nat) (x : Int) : Ending → World → Prop := fun e w' => e = .returned (.int .i64 0) ∧ Clk w' B H n real skew (upd A i (max (-skew) (min x skew))) D ∧ Fr (SC B H) w w'
set_option maxHeartbeats 800000 in
theorem shift_in (h : Clk w B H n real skew A D) {i : Nat} (hi : i < n) (x : Int) : Calls Try.prog 13 #[.pointer (some ⟨B, 0, none⟩), .int .i64 (i : Int), .int .i64 x] w (shifted w B H n real skew A D i x) := by
  have c1 := h.c1
  have c2 := h.c2
  obtain ⟨q0, q1, fz⟩ := h.at hi
  have f0 := fz (i * 2)
  have s0 := h.fit.s0
  have s1 := h.fit.s1
  have hn : (i : Int) < (n : Int) := by omega
  obtain ⟨m, hm⟩ : ∃ m, min x skew = m := ⟨_, rfl⟩
  obtain ⟨y, hy⟩ : ∃ y, max (-skew) m = y := ⟨_, rfl⟩
  have HY : Hid (max (-skew) (min x skew) = y) := by rw [hm]; exact hy
  have y0 : -skew ≤ y := by omega
  have y1 : y ≤ skew := by omega
  have HA := Lib.hid (has_in (h.kept (Kept.refl w)) hi)
  have HH := Lib.hid h
  clear h fz
  go_enter Try.func13, Try.ntmps13
  go_wp2_with (go_at_call 18; refine HA.out.mono ?_; rintro e w' ⟨rfl, rfl⟩)
  refine wp_region_still_tail 19 (by kernel_rfl) (by kernel_rfl) ?_
  change wpStill _ _ (World.drew _) (fun a' => wpList _ _ _ _ a' (World.drew _)) _ _
  simp only [List.take_succ_cons, List.take_zero, List.drop_succ_cons, List.drop_zero]
  repeat (first | still_step)
  refine wpStill_nil ?_
  go_wp2_with fail
  go_ret
  refine ⟨rfl, ?_, ((Fr.refl _ _).setCell (.inl (.inr rfl)) _).drew⟩
  rw [HY.out, hy]
  exact (HH.out.apart hi y0 y1).kept (Kept.refl _).drew

/-- what Read does -/
def reads (w : World) (B H n : Nat) (real skew : Int) (A D : Nat → Int) (i : Nat) : Ending → World → Prop := fun e w' => e = .returned (.int .i64 (says real A D i)) ∧ Clk w' B H n real skew A (upd D i (says real A D i)) ∧ Fr (SC B H) w w'
set_option maxHeartbeats 800000 in
theorem read_in (h : Clk w B H n real skew A D) {i : Nat} (hi : i < n) : Calls Try.prog 12 #[.pointer (some ⟨B, 0, none⟩), .int .i64 (i : Int)] w (reads w B H n real skew A D i) := by
  have c0 := h.c0
  have c2 := h.c2
  obtain ⟨q0, q1, fz⟩ := h.at hi
  have f1 := fz (i * 2 + 1)
  have hn : (i : Int) < (n : Int) := by omega
  have a0 := h.fit.lo i hi
  have a1 := h.fit.hi i hi
  have r0 := h.fit.r0
  have r1 := h.fit.r1
  have s1 := h.fit.s1
  obtain ⟨a, ha⟩ : ∃ a, A i = a := ⟨_, rfl⟩
  obtain ⟨d, hd⟩ : ∃ d, D i = d := ⟨_, rfl⟩
  rw [ha] at q0 a0 a1
  rw [hd] at q1
  obtain ⟨t, ht⟩ : ∃ t, Hid (real + a = t) := ⟨_, rfl⟩
  obtain ⟨c, hc⟩ : ∃ c, Hid (clamp (real + a) = c) := ⟨_, rfl⟩
  obtain ⟨y, hy⟩ : ∃ y, max d c = y := ⟨_, rfl⟩
  have HY : Hid (says real A D i = y) := by unfold says; rw [ha, hd, hc.out]; exact hy
  have RC : ∀ w, Calls Try.prog 19 #[.int .i64 (real + a)] w fun e w' => e = .returned (.int .i64 c) ∧ w = w' := fun w => by have := clamp_any (real + a) w; rw [hc.out] at this; exact this
  have RC := Lib.hid RC
  have HA := Lib.hid (has_in (h.kept (Kept.refl w)) hi)
  have hsum : IntKind.i64.wrap (real + a) = real + a := IntWalk.i64_in _ (by omega)
  have HH := Lib.hid h
  clear h fz ha hd
  go_enter Try.func12, Try.ntmps12
  go_wp2_with (go_at_call 18; refine HA.out.mono ?_; rintro e w' ⟨rfl, rfl⟩)
  refine wp_region_still_tail 18 (by kernel_rfl) (by kernel_rfl) ?_
  change wpStill _ _ (World.drew _) (fun a' => wpList _ _ _ _ a' (World.drew _)) _ _
  simp only [List.take_succ_cons, List.take_zero, List.drop_succ_cons, List.drop_zero]
  repeat (first | still_step | still_call ((RC.out _).mono fun _ _ h => ⟨h.1, h.2.symm⟩))
  refine wpStill_nil ?_
  go_wp2_with fail
  go_ret
  refine ⟨ret_int HY.out.symm, ?_, ((Fr.refl _ _).setCell (.inl (.inr rfl)) _).drew⟩
  rw [HY.out]
  exact (HH.out.said hi _).kept (Kept.refl _).drew

set_option maxHeartbeats 400000 in
theorem shift_out (h : Clk w B H n real skew A D) {i : Int} (hi : i < 0 ∨ (n : Int) ≤ i) (x : Int) : Calls Try.prog 13 #[.pointer (some ⟨B, 0, none⟩), .int .i64 i, .int .i64 x] w fun e w' => e = .returned (.int .i64 7) ∧ w = w' := by
  have HA := Lib.hid (has_out h hi)
  clear h hi
  go_enter Try.func13, Try.ntmps13
  go_wp2_with (go_at_call 18; refine HA.out.mono ?_; rintro e w' ⟨rfl, rfl⟩)
  go_ret
  exact ⟨rfl, rfl⟩
set_option maxHeartbeats 400000 in
theorem read_out (h : Clk w B H n real skew A D) {i : Int} (hi : i < 0 ∨ (n : Int) ≤ i) : Calls Try.prog 12 #[.pointer (some ⟨B, 0, none⟩), .int .i64 i] w fun e w' => e = .returned (.int .i64 0) ∧ w = w' := by
  have HA := Lib.hid (has_out h hi)
  clear h hi
  go_enter Try.func12, Try.ntmps12
  go_wp2_with (go_at_call 18; refine HA.out.mono ?_; rintro e w' ⟨rfl, rfl⟩)
  go_ret
  exact ⟨rfl, rfl⟩
end

section
variable (w : World) (i x : Int)
set_option maxHeartbeats 400000 in
theorem nhas : Calls Try.prog 18 #[.pointer none, .int .i64 i] w fun e w' => e = .returned (.bool false) ∧ w = w' := by
  go_enter Try.func18, Try.ntmps18
  go_wp2
  go_ret
  exact ⟨rfl, rfl⟩
set_option maxHeartbeats 400000 in
theorem nreal : Calls Try.prog 11 #[.pointer none] w fun e w' => e = .returned (.int .i64 0) ∧ w = w' := by
  go_enter Try.func11, Try.ntmps11
  go_wp2
  go_ret
  exact ⟨rfl, rfl⟩
set_option maxHeartbeats 400000 in
theorem nskew : Calls Try.prog 8 #[.pointer none] w fun e w' => e = .returned (.int .i64 0) ∧ w = w' := by
  go_enter Try.func8, Try.ntmps8
  go_wp2
  go_ret
  exact ⟨rfl, rfl⟩
set_option maxHeartbeats 400000 in
theorem ntick : Calls Try.prog 10 #[.pointer none, .int .i64 x] w fun e w' => e = .returned (.tuple #[]) ∧ w = w' := by
  go_enter Try.func10, Try.ntmps10
  go_wp2
  refine bodyPost_ret (results_none rfl _ _ _) rfl ?_
  exact ⟨rfl, rfl⟩
set_option maxHeartbeats 400000 in
theorem nshift : Calls Try.prog 13 #[.pointer none, .int .i64 i, .int .i64 x] w fun e w' => e = .returned (.int .i64 7) ∧ w = w' := by
  go_enter Try.func13, Try.ntmps13
  go_wp2_with (go_at_call 18; refine (nhas _ _).mono ?_; rintro e w' ⟨rfl, rfl⟩)
  go_ret
  exact ⟨rfl, rfl⟩
set_option maxHeartbeats 400000 in
theorem nread : Calls Try.prog 12 #[.pointer none, .int .i64 i] w fun e w' => e = .returned (.int .i64 0) ∧ w = w' := by
  go_enter Try.func12, Try.ntmps12
  go_wp2_with (go_at_call 18; refine (nhas _ _).mono ?_; rintro e w' ⟨rfl, rfl⟩)
  go_ret
  exact ⟨rfl, rfl⟩
end

/-- what New does: none -/
def newNo (w : World) : Ending → World → Prop := fun e w' => e = .returned (.tuple #[.pointer none, .int .i64 2]) ∧ w = w'
/-- .. or such clocks -/
def newYes (w : World) (n : Nat) (skew : Int) : Ending → World → Prop := fun e w' => ∃ B H, e = .returned (.tuple #[.pointer (some ⟨B, 0, none⟩), .int .i64 0]) ∧ Clk w' B H n 0 skew (fun _ => 0) (fun _ => 0) ∧ w.heap.size ≤ B ∧ w.heap.size ≤ H ∧ Kept w w'
set_option maxHeartbeats 400000 in
theorem new_no (a b : Int) (w : World) (h : a < 1 ∨ 64 < a ∨ b < 0 ∨ 1000 < b) : Calls Try.prog 5 #[.int .i64 a, .int .i64 b] w (newNo w) := by
  by_cases h1 : a < 1
  · go_enter Try.func5, Try.ntmps5
    go_wp2
    go_ret2
    exact ⟨rfl, rfl⟩
  · by_cases h2 : 64 < a
    · go_enter Try.func5, Try.ntmps5
      go_wp2
      go_ret2
      exact ⟨rfl, rfl⟩
    · by_cases h3 : b < 0
      · go_enter Try.func5, Try.ntmps5
        go_wp2
        go_ret2
        exact ⟨rfl, rfl⟩
      · have h4 : 1000 < b := by omega
        clear h
        go_enter Try.func5, Try.ntmps5
        go_wp2
        go_ret2
        exact ⟨rfl, rfl⟩
theorem info_hand : (Try.prog.info? 50).map (fun i => (i.zero, i.size, i.bytes)) = some (some (.agg #[.int .i64 0, .int .i64 0]), 2, 16) := by kernel_rfl
theorem make_hands (n : Nat) (h1 : n ≤ 64) (w : World) : (Instr.makeSlice 43 (.int .i64 (n : Int)) (.int .i64 (n : Int))).run Try.prog w = .ok (.slice (some ⟨w.heap.size, 0, none⟩) n n) (w.alloc (.cells (madeCells #[.int .i64 0, .int .i64 0] (n * 2)) 50)) := by
  obtain ⟨i0, hi, hz, hs, hb⟩ := info_parts info_hand
  have := run_make (P := Try.prog) (w := w) 43 50 i0 _ Try.underlying43 hi hz .i64 .i64 (n : Int) (n : Int) (by omega) (Int.le_refl _) (by rw [hb]; omega) (by omega)
  rw [Int.toNat_natCast, hs] at this
  exact this
theorem made_at {n i : Nat} (h : i < n) : (madeCells #[.int .i64 0, .int .i64 0] (n * 2))[i * 2]? = some (.int .i64 0) ∧ (madeCells #[.int .i64 0, .int .i64 0] (n * 2))[i * 2 + 1]? = some (.int .i64 0) := by
  unfold madeCells
  have e1 : i * 2 % 2 = 0 := by omega
  have e2 : (i * 2 + 1) % 2 = 1 := by omega
  constructor
  · simp [show i * 2 < n * 2 by omega, e1]
  · simp [show i * 2 + 1 < n * 2 by omega, e2]
set_option maxHeartbeats 800000 in
theorem new_yes (n : Nat) (skew : Int) (w : World) (n0 : 1 ≤ n) (n1 : n ≤ 64) (s0 : 0 ≤ skew) (s1 : skew ≤ 1000) : Calls Try.prog 5 #[.int .i64 (n : Int), .int .i64 skew] w (newYes w n skew) := by
  have hmk := make_hands n n1
  have g0 : ¬ (n : Int) < 1 := by omega
  have g1 : ¬ (64 : Int) < (n : Int) := by omega
  have g2 : ¬ skew < 0 := by omega
  have g3 : ¬ 1000 < skew := by omega
  have N := Lib.hid (And.intro n0 (And.intro n1 (And.intro s0 s1)))
  clear n0 n1 s0 s1
  go_enter Try.func5, Try.ntmps5
  go_wp2
  go_ret2
  refine ⟨w.heap.size + 1, w.heap.size, rfl, ?_, Nat.le_succ _, Nat.le_refl _, (Kept.one _ _).more _⟩
  obtain ⟨n0, n1, s0, s1⟩ := N.out
  refine ⟨?_, ⟨_, (Kept.one (w.alloc _) _).block _ (by simp) |>.trans (St.blk_new w _), by simp [size_madeCells], fun i hi => made_at hi⟩, by omega, ⟨Int.le_refl _, by omega, s0, s1, n0, n1, fun _ _ => by omega, fun _ _ => s0⟩⟩
  have := St.blk_new (w.alloc (.cells (madeCells #[.int .i64 0, .int .i64 0] (n * 2)) 50)) (.cells #[.int .i64 0, .int .i64 skew, .slice (some ⟨w.heap.size, 0, none⟩) n n] 45)
  simpa using this

end Go.Proofs.Ytmimhglegkkcbaa.Ck
