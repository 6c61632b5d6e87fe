/- What clocks are in memory, the document's: their block, and two slices; what each function answers, and leaves. -/
import Derived.Test.YtmimhglegkkcbaaCk
import Derived.Test.YtmimhglegkkcbaaRi
namespace Go.Proofs.Ytmimhglegkkcbaa.Ck
open Go.RowKit Go.Sort Tk Wh
open St (Kept blk_cell blk_free blk_lt blk_set)
set_option linter.unusedVariables false

/-- a slice's block: n integers -/
def Blk (w : World) (g n : Nat) (A : Nat → Int) : Prop := ∃ xs, w.heap[g]? = some (.cells xs 3 (0, 0)) ∧ n ≤ xs.size ∧ ∀ i, i < n → xs[i]? = some (.int .i64 (A i))
/-- THE DOCUMENT'S CLOCKS in block R -/
structure Rck (w : World) (R ga gs ca cs n : Nat) (real skew : Int) (A D : Nat → Int) : Prop where
  blk : w.heap[R]? = some (.cells #[.int .i64 real, .int .i64 skew, .slice (some ⟨ga, 0, none⟩) n ca, .slice (some ⟨gs, 0, none⟩) n cs] 36 (0, 0))
  apt : Blk w ga n A
  sad : Blk w gs n D
  na : R ≠ ga
  ns : R ≠ gs
  nn : ga ≠ gs
  fit : Fit n real skew A
def SR (R ga gs : Nat) : Nat → Prop := fun k => k = R ∨ k = ga ∨ k = gs

section
variable {w w' : World} {R ga gs ca cs n g : Nat} {real skew : Int} {A D : Nat → Int}
theorem Blk.lt (h : Blk w g n A) : g < w.heap.size := by obtain ⟨xs, h1, _⟩ := h; exact blk_lt h1
theorem Blk.of (h : Blk w g n A) (e : w'.heap[g]? = w.heap[g]?) : Blk w' g n A := by obtain ⟨xs, h1, h2⟩ := h; exact ⟨xs, e.trans h1, h2⟩
theorem Blk.set (h : Blk w g n A) (i : Nat) (x : Int) : Blk (w.setCell ⟨g, i, none⟩ (.int .i64 x)) g n (upd A i x) := by
  obtain ⟨xs, h1, h2, h3⟩ := h
  refine ⟨_, blk_set h1 _ _, by simpa using h2, fun j hj => ?_⟩
  rw [Array.getElem?_setIfInBounds]
  by_cases e : i = j
  · subst e; rw [if_pos rfl, if_pos (by omega), upd_at]
  · rw [if_neg e, upd_ne _ _ (fun c => e c.symm)]; exact h3 j hj
theorem Blk.at (h : Blk w g n A) {i : Nat} (hi : i < n) : w.cell? ⟨g, i, none⟩ = some (.int .i64 (A i)) ∧ w.frozen? ⟨g, i, none⟩ = false := by
  obtain ⟨xs, h1, _, h3⟩ := h
  exact ⟨by rw [blk_cell h1]; exact h3 i hi, blk_free h1 i⟩
theorem Rck.fr {S : Nat → Prop} (h : Rck w R ga gs ca cs n real skew A D) (f : Fr S w w') (ap : ∀ k, SR R ga gs k → ¬ S k) : Rck w' R ga gs ca cs n real skew A D :=
  ⟨(f.block R (blk_lt h.blk) (ap R (.inl rfl))).trans h.blk, h.apt.of (f.block ga h.apt.lt (ap ga (.inr (.inl rfl)))), h.sad.of (f.block gs h.sad.lt (ap gs (.inr (.inr rfl)))), h.na, h.ns, h.nn, h.fit⟩
theorem Rck.kept (h : Rck w R ga gs ca cs n real skew A D) (k : Kept w w') : Rck w' R ga gs ca cs n real skew A D := h.fr (S := fun _ => False) (Fr.kept k) (fun _ _ c => c)
theorem Rck.lt (h : Rck w R ga gs ca cs n real skew A D) : ∀ k, SR R ga gs k → k < w.heap.size := by
  rintro k (rfl | rfl | rfl)
  · exact blk_lt h.blk
  · exact h.apt.lt
  · exact h.sad.lt
theorem Rck.c0 (h : Rck w R ga gs ca cs n real skew A D) : w.cell? ⟨R, 0, none⟩ = some (.int .i64 real) := by rw [blk_cell h.blk]; rfl
theorem Rck.c1 (h : Rck w R ga gs ca cs n real skew A D) : w.cell? ⟨R, 1, none⟩ = some (.int .i64 skew) := by rw [blk_cell h.blk]; rfl
theorem Rck.c2 (h : Rck w R ga gs ca cs n real skew A D) : w.cell? ⟨R, 2, none⟩ = some (.slice (some ⟨ga, 0, none⟩) n ca) := by rw [blk_cell h.blk]; rfl
theorem Rck.c3 (h : Rck w R ga gs ca cs n real skew A D) : w.cell? ⟨R, 3, none⟩ = some (.slice (some ⟨gs, 0, none⟩) n cs) := by rw [blk_cell h.blk]; rfl
theorem Rck.setReal (h : Rck w R ga gs ca cs n real skew A D) {r : Int} (h0 : 0 ≤ r) (h1 : r ≤ 1125899906842624) : Rck (w.setCell ⟨R, 0, none⟩ (.int .i64 r)) R ga gs ca cs n r skew A D :=
  ⟨blk_set h.blk 0 _, h.apt.of (Below.heap_setCell _ _ _ _ (fun c => h.na c.symm)), h.sad.of (Below.heap_setCell _ _ _ _ (fun c => h.ns c.symm)), h.na, h.ns, h.nn, ⟨h0, h1, h.fit.s0, h.fit.s1, h.fit.n0, h.fit.n1, h.fit.lo, h.fit.hi⟩⟩
theorem Fit.upd (h : Fit n real skew A) (i : Nat) {x : Int} (h0 : -skew ≤ x) (h1 : x ≤ skew) : Fit n real skew (upd A i x) := by
  refine ⟨h.r0, h.r1, h.s0, h.s1, h.n0, h.n1, fun j hj => ?_, fun j hj => ?_⟩
  · by_cases e : j = i
    · subst e; rw [upd_at]; exact h0
    · rw [upd_ne _ _ e]; exact h.lo j hj
  · by_cases e : j = i
    · subst e; rw [upd_at]; exact h1
    · rw [upd_ne _ _ e]; exact h.hi j hj
theorem Rck.apart (h : Rck w R ga gs ca cs n real skew A D) (i : Nat) {x : Int} (h0 : -skew ≤ x) (h1 : x ≤ skew) : Rck (w.setCell ⟨ga, i, none⟩ (.int .i64 x)) R ga gs ca cs n real skew (upd A i x) D :=
  ⟨(Below.heap_setCell _ _ _ _ h.na).trans h.blk, h.apt.set i x, h.sad.of (Below.heap_setCell _ _ _ _ (fun c => h.nn c.symm)), h.na, h.ns, h.nn, h.fit.upd i h0 h1⟩
theorem Rck.said (h : Rck w R ga gs ca cs n real skew A D) (i : Nat) (x : Int) : Rck (w.setCell ⟨gs, i, none⟩ (.int .i64 x)) R ga gs ca cs n real skew A (upd D i x) :=
  ⟨(Below.heap_setCell _ _ _ _ h.ns).trans h.blk, h.apt.of (Below.heap_setCell _ _ _ _ h.nn), h.sad.set i x, h.na, h.ns, h.nn, h.fit⟩
theorem Rck.congr {D' : Nat → Int} (h : Rck w R ga gs ca cs n real skew A D) (e : ∀ i, i < n → D' i = D i) : Rck w R ga gs ca cs n real skew A D' := by
  obtain ⟨xs, h1, h2, h3⟩ := h.sad
  exact ⟨h.blk, h.apt, ⟨xs, h1, h2, fun i hi => by rw [e i hi]; exact h3 i hi⟩, h.na, h.ns, h.nn, h.fit⟩

theorem upd_self {i : Nat} {d : Int} (h : D i = d) (j : Nat) : upd D i d j = D j := by
  by_cases e : j = i
  · subst e; rw [upd_at, h]
  · rw [upd_ne _ _ e]

/-- what Tick does -/
def rticked (w : World) (R ga gs ca cs n : Nat) (real skew : Int) (A D : Nat → Int) (a : Int) : Ending → World → Prop := fun e w' => e = .returned (.tuple #[]) ∧ Rck w' R ga gs ca cs n (add real a) skew A D ∧ Fr (SR R ga gs) w w'
set_option maxHeartbeats 400000 in
theorem rtick_any (h : Rck w R ga gs ca cs n real skew A D) (a : Int) : Calls Try.prog 14 #[.pointer (some ⟨R, 0, none⟩), .int .i64 a] w (rticked w R ga gs ca cs n real skew A D a) := by
  have c0 := h.c0
  have f0 := blk_free h.blk 0
  obtain ⟨r, hr⟩ : ∃ r, Hid (add real a = r) := ⟨_, rfl⟩
  have RC : ∀ w, Calls Try.prog 20 #[.int .i64 real, .int .i64 a] w fun e w' => e = .returned (.int .i64 r) ∧ w = w' := fun w => by have := radd_any real a w; rw [hr.out] at this; exact this
  have RC := Lib.hid RC
  have HH := Lib.hid h
  clear h
  go_enter Try.func14, Try.ntmps14
  go_wp2_with (go_at_call 20; refine (RC.out _).mono ?_; rintro e w' ⟨rfl, rfl⟩)
  refine bodyPost_ret (results_none rfl _ _ _) rfl ?_
  refine ⟨rfl, ?_, (Fr.refl _ _).setCell (.inl (.inl rfl)) _⟩
  rw [hr.out]
  exact HH.out.setReal (by rw [← hr.out]; exact add_lo _ _) (by rw [← hr.out]; exact add_hi _ _)

/-- what Shift does -/
def rshifted (w : World) (R ga gs ca cs n : Nat) (real skew : Int) (A D : Nat → Int) (i : Nat) (x : Int) : Ending → World → Prop := fun e w' => e = .returned (.int .i64 0) ∧ Rck w' R ga gs ca cs n real skew (upd A i (max (-skew) (min x skew))) D ∧ Fr (SR R ga gs) w w'
set_option maxHeartbeats 800000 in
theorem rshift_in (h : Rck w R ga gs ca cs n real skew A D) {i : Nat} (hi : i < n) (x : Int) : Calls Try.prog 15 #[.pointer (some ⟨R, 0, none⟩), .int .i64 (i : Int), .int .i64 x] w (rshifted w R ga gs ca cs n real skew A D i x) := by
  have c1 := h.c1
  have c2 := h.c2
  have c3 := h.c3
  obtain ⟨q0, f0⟩ := h.apt.at hi
  have s0 := h.fit.s0
  have s1 := h.fit.s1
  have hn : (i : Int) < (n : Int) := by omega
  have hd : decide ((n : Int) ≤ (i : Int)) = false := by simpa using hi
  have HH := Lib.hid h
  clear h
  by_cases h1 : skew < x
  · have HY : Hid (max (-skew) (min x skew) = skew) := by show _ = _; omega
    go_enter Try.func15, Try.ntmps15
    go_wp2
    go_ret
    refine ⟨rfl, ?_, (Fr.refl _ _).setCell (.inl (.inr (.inl rfl))) _⟩
    rw [HY.out]
    exact HH.out.apart i (by omega) (Int.le_refl _)
  · by_cases h2 : x < -skew
    · have HY : Hid (max (-skew) (min x skew) = -skew) := by show _ = _; omega
      go_enter Try.func15, Try.ntmps15
      go_wp2
      go_ret
      refine ⟨rfl, ?_, (Fr.refl _ _).setCell (.inl (.inr (.inl rfl))) _⟩
      rw [HY.out]
      exact HH.out.apart i (by omega) (by omega)
    · have HY : Hid (max (-skew) (min x skew) = x) := by show _ = _; omega
      go_enter Try.func15, Try.ntmps15
      go_wp2
      go_ret
      refine ⟨rfl, ?_, (Fr.refl _ _).setCell (.inl (.inr (.inl rfl))) _⟩
      rw [HY.out]
      exact HH.out.apart i (by omega) (by omega)
set_option maxHeartbeats 800000 in
theorem rshift_out (h : Rck w R ga gs ca cs n real skew A D) {i : Int} (hi : i < 0 ∨ (n : Int) ≤ i) (x : Int) : Calls Try.prog 15 #[.pointer (some ⟨R, 0, none⟩), .int .i64 i, .int .i64 x] w fun e w' => e = .returned (.int .i64 7) ∧ w = w' := by
  have c3 := h.c3
  clear h
  by_cases h0 : i < 0
  · go_enter Try.func15, Try.ntmps15
    go_wp2
    go_ret
    exact ⟨rfl, rfl⟩
  · have hd : decide ((n : Int) ≤ i) = true := by simpa using (show (n : Int) ≤ i by omega)
    have h0' : 0 ≤ i := by omega
    clear hi
    go_enter Try.func15, Try.ntmps15
    go_wp2
    go_ret
    exact ⟨rfl, rfl⟩

/-- what Read does -/
def rreads (w : World) (R ga gs ca cs n : Nat) (real skew : Int) (A D : Nat → Int) (i : Nat) : Ending → World → Prop := fun e w' => e = .returned (.int .i64 (says real A D i)) ∧ Rck w' R ga gs ca cs n real skew A (upd D i (says real A D i)) ∧ Fr (SR R ga gs) w w'
set_option maxHeartbeats 800000 in
theorem rread_in (h : Rck w R ga gs ca cs n real skew A D) {i : Nat} (hi : i < n) : Calls Try.prog 16 #[.pointer (some ⟨R, 0, none⟩), .int .i64 (i : Int)] w (rreads w R ga gs ca cs n real skew A D i) := by
  have c0 := h.c0
  have c2 := h.c2
  have c3 := h.c3
  obtain ⟨q0, _⟩ := h.apt.at hi
  obtain ⟨q1, f1⟩ := h.sad.at hi
  have ns := h.ns
  have ns' := h.ns.symm
  have hn : (i : Int) < (n : Int) := by omega
  have hd : decide ((n : Int) ≤ (i : Int)) = false := by simpa using hi
  have a0 := h.fit.lo i hi
  have a1 := h.fit.hi i hi
  have r0 := h.fit.r0
  have r1 := h.fit.r1
  have s1 := h.fit.s1
  obtain ⟨a, ha⟩ : ∃ a, A i = a := ⟨_, rfl⟩
  obtain ⟨d, hd'⟩ : ∃ d, D i = d := ⟨_, rfl⟩
  rw [ha] at q0 a0 a1
  rw [hd'] at q1
  obtain ⟨c, hc⟩ : ∃ c, Hid (clamp (real + a) = c) := ⟨_, rfl⟩
  have HY : Hid (says real A D i = max d c) := by unfold says; rw [ha, hd', hc.out]; rfl
  have HD : Hid (D i = d) := hd'
  have RC : ∀ w, Calls Try.prog 21 #[.int .i64 (real + a)] w fun e w' => e = .returned (.int .i64 c) ∧ w = w' := fun w => by have := rclamp_any (real + a) w; rw [hc.out] at this; exact this
  have RC := Lib.hid RC
  have hsum : IntKind.i64.wrap (real + a) = real + a := IntWalk.i64_in _ (by omega)
  have HH := Lib.hid h
  clear h ha hd'
  by_cases hlt : d < c
  · have hdec : decide (d < c) = true := decide_eq_true hlt
    have HM : Hid (max d c = c) := by show _ = _; omega
    clear hlt
    go_enter Try.func16, Try.ntmps16
    go_wp2_with fail
    go_quiet ((go_at_call 21; exact Calls.quiet_of_same ((RC.out _).mono fun _ _ h => ⟨h.1, h.2.symm⟩)))
    go_wp2_with fail
    go_ret
    refine ⟨ret_int (by rw [HY.out, HM.out]), ?_, ((Fr.refl _ _).drewN _).setCell (.inl (.inr (.inr rfl))) _⟩
    rw [HY.out, HM.out]
    exact (HH.out.kept ((Kept.refl _).drewN _)).said i _
  · have hdec : decide (d < c) = false := decide_eq_false hlt
    have HM : Hid (max d c = d) := by show _ = _; omega
    clear hlt
    go_enter Try.func16, Try.ntmps16
    go_wp2_with fail
    go_quiet ((go_at_call 21; exact Calls.quiet_of_same ((RC.out _).mono fun _ _ h => ⟨h.1, h.2.symm⟩)))
    go_wp2_with fail
    go_ret
    refine ⟨ret_int (by rw [HY.out, HM.out]), ?_, (Fr.refl _ _).drewN _⟩
    rw [HY.out, HM.out]
    exact (HH.out.kept ((Kept.refl _).drewN _)).congr (fun j hj => upd_self HD.out j)
set_option maxHeartbeats 800000 in
theorem rread_out (h : Rck w R ga gs ca cs n real skew A D) {i : Int} (hi : i < 0 ∨ (n : Int) ≤ i) : Calls Try.prog 16 #[.pointer (some ⟨R, 0, none⟩), .int .i64 i] w fun e w' => e = .returned (.int .i64 0) ∧ w = w' := by
  have c3 := h.c3
  clear h
  by_cases h0 : i < 0
  · go_enter Try.func16, Try.ntmps16
    go_wp2
    go_ret
    exact ⟨rfl, rfl⟩
  · have hd : decide ((n : Int) ≤ i) = true := by simpa using (show (n : Int) ≤ i by omega)
    have h0' : 0 ≤ i := by omega
    clear hi
    go_enter Try.func16, Try.ntmps16
    go_wp2
    go_ret
    exact ⟨rfl, rfl⟩
end

end Go.Proofs.Ytmimhglegkkcbaa.Ck
